/- Proved here: the program asks whether one side of a change, a change, and a list of changes are right as the plain definitions 'sideGood', 'chOk', 'diffOk' say; lists of at most 1,048,576. Proved here: the program turns changes back as the plain definition says, in memory of its own; lists of at most 1,048,576 changes, points and tags. Proved here: what an iterator over changes hands over, and what a round of a loop over it may turn: plain facts; a change in a box of its own. Proved here: the program's iterator over what is turned between two maps hands over just that, each in memory of its own; maps of at most 1,048,576 things, lists likewise. Proved here: the model's DiffOf is the plain list of what is turned, or nothing of maps that are not ok, in memory made since; lists of at most 1,048,576 things, points and tags. Proved here: the program's DiffOf answers what is turned from one map to another one, in memory of its own; lists of at most 1,048,576 things, points and tags. Proved here: a block of cells that nothing of is frozen, and what stands in it; no condition. Proved here: the program's DiffOf answers what is turned from one map to another one, in memory of its own; lists of at most 1,048,576 things, points and tags. Proved here: a list of things that toFeatS laid lies in memory of its own, its parts apart; no condition. Proved here: the law FnExactDiffOf answers true at every two lists of things, and leaves them as they were; no condition. -/
import Derived.Test.YtccgbengfmlgbaaGreatMDf2
import Derived.Test.YtccgbengfmlgbaaGreatMDf3
import Derived.Test.YtccgbengfmlgbaaGreatMDf1
import Derived.Deep.RegionHeld3
import Derived.Deep.DeepCutAuto
import Derived.Test.YtccgbengfmlgbaaGreatWIter
import Derived.Test.YtccgbengfmlgbaaGreatWTold
import Derived.Test.YtccgbengfmlgbaaGreatWSheetOk
import Derived.OwnWalkIn
import Derived.TacticsInMore
import Derived.Test.YtccgbengfmlgbaaGreatWBase
import Derived.Test.YtccgbengfmlgbaaGreatWSheetArg
import Derived.Test.YtccgbengfmlgbaaGreatWQuietB
import Derived.BigQuiet
import Derived.Test.YtccgbengfmlgbaaGreatWChangeEq
import Derived.Test.YtccgbengfmlgbaaGreatWMarkC
namespace Go.Proofs.YtccgbengfmlgbaaGreat
set_option linter.unusedVariables false
open Go.ChangeShapes Go.WideShapes Go.ChangeAt Go.RowKit

set_option maxRecDepth 100000 in
set_option maxHeartbeats 4000000 in
theorem sideOk_any (i : ByteArray) (h : Bool) (f : Ft) (pa : Option Addr) (pc : Nat) (ta : Option Addr) (tc : Nat) (w : World) (hp : PtsAt w pa f.2.2.1) (ht : TagsAt w ta f.2.2.2) (lf : FtLen f 1048576) :
    Calls Tryz.prog 146 #[.string i, .bool h, .agg #[.string f.1, .int .i64 f.2.1, .slice pa f.2.2.1.length pc, .slice ta f.2.2.2.length tc]] w fun e w' => e = .returned (.bool (sideGood i h f)) ∧ Below w.heap.size w w' := by
  have HP := Lib.hid hp
  have HT := Lib.hid ht
  have LF := Lib.hid lf
  obtain ⟨lf1, lf2, lf3, lf4⟩ := lf
  clear hp ht lf4
  have A1 : Hid (∀ o, Below w.heap.size w (w.alloc o)) := fun o => (Below.refl _ _).alloc (Nat.le_refl _) _
  have FZ : Hid (∀ u, Below w.heap.size w u → Calls Tryz.prog 114 #[.agg #[.string f.1, .int .i64 f.2.1, .slice pa f.2.2.1.length pc, .slice ta f.2.2.2.length tc], .agg #[.string ⟨#[]⟩, .int .i64 0, .slice none 0 0, .slice none 0 0]] u fun e w' => e = .returned (.bool (ftEq f zft)) ∧ Below u.heap.size u w') := fun u hu => by
    have := implFeatSame_any f.1 .empty f.2.1 0 pa none pc 0 f.2.2.1 [] ta none tc 0 f.2.2.2 [] u (HP.out.below hu) (PtsAt.nil _ _) (HT.out.below hu) (TagsAt.nil _ _) (by omega) (by simp) (by omega) (by simp)
    rw [show featEq f.1 .empty f.2.1 0 f.2.2.1 [] f.2.2.2 [] = ftEq f zft from featEq_ft f zft] at this
    exact this
  have FO : Hid (∀ u, Below w.heap.size w u → Calls Tryz.prog 42 #[.agg #[.string f.1, .int .i64 f.2.1, .slice pa f.2.2.1.length pc, .slice ta f.2.2.2.length tc]] u fun e w' => e = .returned (.bool (ftGood f)) ∧ Below u.heap.size u w') := fun u hu =>
    implFeatOk_any _ _ _ _ _ _ _ _ _ (HP.out.below hu) (HT.out.below hu) (by omega) (by omega) (by omega) LF.out.2.2.2
  clear HP HT LF
  have e1 := bytes_beq f.1 i
  cases h
  · go_enter Tryz.func146, Tryz.ntmps146
    go_wp2_with fail
    first | refine (FZ.out _ (A1.out _)).mono ?_ | refine (FZ.out _ (Below.refl _ _)).mono ?_
    rintro e w1 ⟨rfl, hb⟩
    first | have B1 : Hid (Below w.heap.size w w1) := (A1.out _).trans (hb.mono (by simp)) | have B1 : Hid (Below w.heap.size w w1) := hb
    clear hb
    go_wp2
    go_ret
    exact ⟨by simp [sideGood], B1.out⟩
  · go_enter Tryz.func146, Tryz.ntmps146
    go_wp2_with fail
    refine (FO.out _ (A1.out _)).mono ?_
    rintro e w1 ⟨rfl, hb⟩
    have c0 := cell_later hb (a := ⟨w.heap.size, 0, none⟩) (v := .string f.1) (by simp [go_sem])
    have B1 : Hid (Below w.heap.size w w1) := (A1.out _).trans (hb.mono (by simp))
    clear hb
    by_cases hO : ftGood f = true
    · rw [hO]
      by_cases hI : f.1 = i
      · rw [decide_eq_true hI] at e1
        go_wp2
        go_ret
        exact ⟨by simp [sideGood, hO, hI], B1.out⟩
      · rw [decide_eq_false hI] at e1
        go_wp2
        go_ret
        exact ⟨by simp [sideGood, hO, hI], B1.out⟩
    · have hO' : ftGood f = false := by simpa using hO
      rw [hO']
      go_wp2
      go_ret
      exact ⟨by simp [sideGood, hO'], B1.out⟩

set_option maxRecDepth 100000 in
set_option maxHeartbeats 4000000 in
theorem turnsSomething_any (i : ByteArray) (h : Bool) (f : Ft) (s : Bool) (g : Ft) (pa : Option Addr) (pc : Nat) (ta : Option Addr) (tc : Nat) (qa : Option Addr) (qc : Nat) (ua : Option Addr) (uc : Nat) (w : World) (hp : PtsAt w pa f.2.2.1) (ht : TagsAt w ta f.2.2.2) (hq : PtsAt w qa g.2.2.1) (hu : TagsAt w ua g.2.2.2) (m1 : f.2.2.1.length ≤ 1048576) (m2 : f.2.2.2.length ≤ 1048576) (m3 : g.2.2.1.length ≤ 1048576) (m4 : g.2.2.2.length ≤ 1048576) :
    Calls Tryz.prog 119 #[.agg #[.string i, .bool h, .string f.1, .int .i64 f.2.1, .slice pa f.2.2.1.length pc, .slice ta f.2.2.2.length tc, .bool s, .string g.1, .int .i64 g.2.1, .slice qa g.2.2.1.length qc, .slice ua g.2.2.2.length uc]] w fun e w' => e = .returned (.bool (turns h f s g)) ∧ Below w.heap.size w w' := by
  have A1 : Hid (∀ o, Below w.heap.size w (w.alloc o)) := fun o => (Below.refl _ _).alloc (Nat.le_refl _) _
  have FG : Hid (∀ u, Below w.heap.size w u → Calls Tryz.prog 114 #[.agg #[.string f.1, .int .i64 f.2.1, .slice pa f.2.2.1.length pc, .slice ta f.2.2.2.length tc], .agg #[.string g.1, .int .i64 g.2.1, .slice qa g.2.2.1.length qc, .slice ua g.2.2.2.length uc]] u fun e w' => e = .returned (.bool (ftEq f g)) ∧ Below u.heap.size u w') := fun u hu' => by
    have := implFeatSame_any f.1 g.1 f.2.1 g.2.1 pa qa pc qc f.2.2.1 g.2.2.1 ta ua tc uc f.2.2.2 g.2.2.2 u (hp.below hu') (hq.below hu') (ht.below hu') (hu.below hu') (by omega) (by omega) (by omega) (by omega)
    rwa [featEq_ft] at this
  clear hp ht hq hu

  cases h
  · cases s
    · go_enter Tryz.func119, Tryz.ntmps119
      go_wp2_with fail
      refine (FG.out _ (A1.out _)).mono ?_
      rintro e w1 ⟨rfl, hb⟩
      have B1 : Hid (Below w.heap.size w w1) := (A1.out _).trans (hb.mono (by simp))
      clear hb
      go_wp2
      go_ret
      exact ⟨by simp [turns], B1.out⟩
    · go_enter Tryz.func119, Tryz.ntmps119
      go_wp2
      go_ret
      exact ⟨by simp [turns], A1.out _⟩
  · cases s
    · go_enter Tryz.func119, Tryz.ntmps119
      go_wp2
      go_ret
      exact ⟨by simp [turns], A1.out _⟩
    · go_enter Tryz.func119, Tryz.ntmps119
      go_wp2_with fail
      refine (FG.out _ (A1.out _)).mono ?_
      rintro e w1 ⟨rfl, hb⟩
      have B1 : Hid (Below w.heap.size w w1) := (A1.out _).trans (hb.mono (by simp))
      clear hb
      go_wp2
      go_ret
      exact ⟨by simp [turns], B1.out⟩

set_option maxRecDepth 100000 in
set_option maxHeartbeats 8000000 in
theorem changeOk_any (i : ByteArray) (h : Bool) (f : Ft) (s : Bool) (g : Ft) (pa : Option Addr) (pc : Nat) (ta : Option Addr) (tc : Nat) (qa : Option Addr) (qc : Nat) (ua : Option Addr) (uc : Nat) (w : World) (hp : PtsAt w pa f.2.2.1) (ht : TagsAt w ta f.2.2.2) (hq : PtsAt w qa g.2.2.1) (hu : TagsAt w ua g.2.2.2) (li : i.size ≤ 1048576) (lf : FtLen f 1048576) (lg : FtLen g 1048576) :
    Calls Tryz.prog 123 #[.agg #[.string i, .bool h, .string f.1, .int .i64 f.2.1, .slice pa f.2.2.1.length pc, .slice ta f.2.2.2.length tc, .bool s, .string g.1, .int .i64 g.2.1, .slice qa g.2.2.1.length qc, .slice ua g.2.2.2.length uc]] w fun e w' => e = .returned (.bool (chOk i h f s g)) ∧ Below w.heap.size w w' := by
  have HP := Lib.hid hp
  have HT := Lib.hid ht
  have HQ := Lib.hid hq
  have HU := Lib.hid hu
  have LF := Lib.hid lf
  have LG := Lib.hid lg
  clear hp ht hq hu lf lg
  have A1 : Hid (∀ o, Below w.heap.size w (w.alloc o)) := fun o => (Below.refl _ _).alloc (Nat.le_refl _) _
  go_enter Tryz.func123, Tryz.ntmps123
  go_wp2_with fail
  refine (implWordOk_any _ _ li).mono ?_
  rintro e w1 ⟨rfl, hb⟩
  have c0 := cell_later hb (a := ⟨w.heap.size, 0, none⟩) (v := .string i) (by simp [go_sem])
  have c1 := cell_later hb (a := ⟨w.heap.size, 1, none⟩) (v := .bool h) (by simp [go_sem])
  have c2 := cell_later hb (a := ⟨w.heap.size, 2, none⟩) (v := .string f.1) (by simp [go_sem])
  have c3 := cell_later hb (a := ⟨w.heap.size, 3, none⟩) (v := .int .i64 f.2.1) (by simp [go_sem])
  have c4 := cell_later hb (a := ⟨w.heap.size, 4, none⟩) (v := .slice pa f.2.2.1.length pc) (by simp [go_sem])
  have c5 := cell_later hb (a := ⟨w.heap.size, 5, none⟩) (v := .slice ta f.2.2.2.length tc) (by simp [go_sem])
  have c6 := cell_later hb (a := ⟨w.heap.size, 6, none⟩) (v := .bool s) (by simp [go_sem])
  have c7 := cell_later hb (a := ⟨w.heap.size, 7, none⟩) (v := .string g.1) (by simp [go_sem])
  have c8 := cell_later hb (a := ⟨w.heap.size, 8, none⟩) (v := .int .i64 g.2.1) (by simp [go_sem])
  have c9 := cell_later hb (a := ⟨w.heap.size, 9, none⟩) (v := .slice qa g.2.2.1.length qc) (by simp [go_sem])
  have c10 := cell_later hb (a := ⟨w.heap.size, 10, none⟩) (v := .slice ua g.2.2.2.length uc) (by simp [go_sem])
  have B1 : Hid (Below w.heap.size w w1) := (A1.out _).trans (hb.mono (by simp))
  clear hb
  by_cases hW : wordOk i = true
  · rw [hW]
    go_wp2_with fail
    refine (sideOk_any _ _ _ _ _ _ _ _ (HP.out.below B1.out) (HT.out.below B1.out) LF.out).mono ?_
    rintro e w2 ⟨rfl, hb⟩
    replace c0 := cell_later hb c0
    replace c1 := cell_later hb c1
    replace c2 := cell_later hb c2
    replace c3 := cell_later hb c3
    replace c4 := cell_later hb c4
    replace c5 := cell_later hb c5
    replace c6 := cell_later hb c6
    replace c7 := cell_later hb c7
    replace c8 := cell_later hb c8
    replace c9 := cell_later hb c9
    replace c10 := cell_later hb c10
    have B2 : Hid (Below w.heap.size w w2) := B1.out.trans (hb.mono B1.out.size)
    clear hb
    by_cases hS1 : sideGood i h f = true
    · rw [hS1]
      go_wp2_with fail
      refine (sideOk_any _ _ _ _ _ _ _ _ (HQ.out.below B2.out) (HU.out.below B2.out) LG.out).mono ?_
      rintro e w3 ⟨rfl, hb⟩
      replace c0 := cell_later hb c0
      replace c1 := cell_later hb c1
      replace c2 := cell_later hb c2
      replace c3 := cell_later hb c3
      replace c4 := cell_later hb c4
      replace c5 := cell_later hb c5
      replace c6 := cell_later hb c6
      replace c7 := cell_later hb c7
      replace c8 := cell_later hb c8
      replace c9 := cell_later hb c9
      replace c10 := cell_later hb c10
      have B3 : Hid (Below w.heap.size w w3) := B2.out.trans (hb.mono B2.out.size)
      clear hb
      by_cases hS2 : sideGood i s g = true
      · rw [hS2]
        go_wp2_with fail
        refine (turnsSomething_any _ _ _ _ _ _ _ _ _ _ _ _ _ _ (HP.out.below B3.out) (HT.out.below B3.out) (HQ.out.below B3.out) (HU.out.below B3.out) (by have := LF.out.2.1; omega) (by have := LF.out.2.2.1; omega) (by have := LG.out.2.1; omega) (by have := LG.out.2.2.1; omega)).mono ?_
        rintro e w4 ⟨rfl, hb⟩
        replace c0 := cell_later hb c0
        replace c1 := cell_later hb c1
        replace c2 := cell_later hb c2
        replace c3 := cell_later hb c3
        replace c4 := cell_later hb c4
        replace c5 := cell_later hb c5
        replace c6 := cell_later hb c6
        replace c7 := cell_later hb c7
        replace c8 := cell_later hb c8
        replace c9 := cell_later hb c9
        replace c10 := cell_later hb c10
        have B4 : Hid (Below w.heap.size w w4) := B3.out.trans (hb.mono B3.out.size)
        clear hb
        clear c0 c1 c2 c3 c4 c5 c6 c7 c8 c9 c10
        go_wp2
        go_ret
        exact ⟨by simp [chOk, hW, hS1, hS2], B4.out⟩
      · have hS2' : sideGood i s g = false := by simpa using hS2
        rw [hS2']
        clear c0 c1 c2 c3 c4 c5 c6 c7 c8 c9 c10
        go_wp2
        go_ret
        exact ⟨by simp [chOk, hW, hS1, hS2'], B3.out⟩
    · have hS1' : sideGood i h f = false := by simpa using hS1
      rw [hS1']
      clear c0 c1 c2 c3 c4 c5 c6 c7 c8 c9 c10
      go_wp2
      go_ret
      exact ⟨by simp [chOk, hW, hS1'], B2.out⟩
  · have hW' : wordOk i = false := by simpa using hW
    rw [hW']
    clear c0 c1 c2 c3 c4 c5 c6 c7 c8 c9 c10
    go_wp2
    go_ret
    exact ⟨by simp [chOk, hW'], B1.out⟩

set_option maxRecDepth 100000 in
set_option maxHeartbeats 8000000 in
theorem implDiffOk_any (a : Option Addr) (cap : Nat) (ds : List Ch) (w : World) (hp : ChangesAt w a ds) (hl : ds.length ≤ 1048576) (ht : ChLen ds 1048576) :
    Calls Tryz.prog 76 #[.slice a ds.length cap] w fun e w' => e = .returned (.bool (diffOk ds)) ∧ Below w.heap.size w w' := by
  have HP := Lib.hid hp
  have HL := Lib.hid ht
  clear hp ht
  by_cases h16 : ds.length ≤ 16
  · go_enter Tryz.func76, Tryz.ntmps76
    go_wp2
    go_loopw [3, 4, 10] (fun _ _ i wr => ∃ k : Nat, k ≤ ds.length ∧ i = .int .i64 k ∧ Below w.heap.size w wr ∧ ∀ j, j < k → chGood ds j = true) (fun _ _ i _ => ds.length - (intOf i).toNat)
    case atStart => exact ⟨0, Nat.zero_le _, rfl, Below.refl _ _, fun j h => absurd h (Nat.not_lt_zero _)⟩
    case round =>
      obtain ⟨k, hk, rfl, hbel, hall⟩ := hrel
      have HA := Lib.hid hall
      have HB := Lib.hid hbel
      have hsz := hbel.size
      clear hall
      by_cases hlt : k < ds.length
      · obtain ⟨b, off, pa, pc, ta, tc, qa, qc, ua, uc, rfl, hx⟩ := HP.out k hlt
        obtain ⟨hb, c0, c1, c2, c3, c4, c5, c6, c7, c8, c9, c10, hpp, htt, hqq, huu⟩ := hx.below hbel
        have hb0 := hx.lt
        clear hx
        obtain ⟨l1, l2, l3⟩ := HL.out k hlt
        have D1 := Lib.hid hpp
        have D2 := Lib.hid htt
        have D3 := Lib.hid hqq
        have D4 := Lib.hid huu
        have L2 := Lib.hid l2
        have L3 := Lib.hid l3
        clear hbel hpp htt hqq huu l2 l3
        have B0 : Hid (∀ u, Below wr.heap.size wr u → Calls Tryz.prog 123 #[.agg #[.string (cid ds k), .bool (chd ds k), .string (cwf ds k).1, .int .i64 (cwf ds k).2.1, .slice pa (cwf ds k).2.2.1.length pc, .slice ta (cwf ds k).2.2.2.length tc, .bool (chs ds k), .string (cnf ds k).1, .int .i64 (cnf ds k).2.1, .slice qa (cnf ds k).2.2.1.length qc, .slice ua (cnf ds k).2.2.2.length uc]] u fun e w' => e = .returned (.bool (chOkAt ds k)) ∧ Below u.heap.size u w') := fun u hu =>
          changeOk_any _ _ _ _ _ _ _ _ _ _ _ _ _ _ (D1.out.below hu) (D2.out.below hu) (D3.out.below hu) (D4.out.below hu) (by omega) L2.out L3.out
        clear D1 D2 D3 D4 L2 L3
        have A0 : Hid (∀ o, Below wr.heap.size wr (wr.alloc o)) := fun o => (Below.refl _ _).alloc (Nat.le_refl _) _
        by_cases hx : chOkAt ds k = true
        · by_cases h0 : k = 0
          · subst h0
            simp only [Nat.zero_mul, Nat.add_zero] at c0 c1 c2 c3 c4 c5 c6 c7 c8 c9 c10
            have HS : Hid (chGood ds 0 = true) := by simp [Hid, chGood, hx]
            have HC := B0
            rw [hx] at HC
            clear B0 hx
            go_wp2
            generalize hwo : wr.alloc _ = wo
            have BO : Hid (Below wr.heap.size wr wo) := by rw [← hwo]; exact A0.out _
            have q0 : ∀ x : Kept wo, x.1.cell? ⟨wr.heap.size, 0, none⟩ = some (.string (cid ds 0)) := fun x => x.cell (by rw [← hwo]; simp [go_sem])
            have q1 : ∀ x : Kept wo, x.1.cell? ⟨wr.heap.size, 1, none⟩ = some (.bool (chd ds 0)) := fun x => x.cell (by rw [← hwo]; simp [go_sem])
            have q2 : ∀ x : Kept wo, x.1.cell? ⟨wr.heap.size, 2, none⟩ = some (.string (cwf ds 0).1) := fun x => x.cell (by rw [← hwo]; simp [go_sem])
            have q3 : ∀ x : Kept wo, x.1.cell? ⟨wr.heap.size, 3, none⟩ = some (.int .i64 (cwf ds 0).2.1) := fun x => x.cell (by rw [← hwo]; simp [go_sem])
            have q4 : ∀ x : Kept wo, x.1.cell? ⟨wr.heap.size, 4, none⟩ = some (.slice pa (cwf ds 0).2.2.1.length pc) := fun x => x.cell (by rw [← hwo]; simp [go_sem])
            have q5 : ∀ x : Kept wo, x.1.cell? ⟨wr.heap.size, 5, none⟩ = some (.slice ta (cwf ds 0).2.2.2.length tc) := fun x => x.cell (by rw [← hwo]; simp [go_sem])
            have q6 : ∀ x : Kept wo, x.1.cell? ⟨wr.heap.size, 6, none⟩ = some (.bool (chs ds 0)) := fun x => x.cell (by rw [← hwo]; simp [go_sem])
            have q7 : ∀ x : Kept wo, x.1.cell? ⟨wr.heap.size, 7, none⟩ = some (.string (cnf ds 0).1) := fun x => x.cell (by rw [← hwo]; simp [go_sem])
            have q8 : ∀ x : Kept wo, x.1.cell? ⟨wr.heap.size, 8, none⟩ = some (.int .i64 (cnf ds 0).2.1) := fun x => x.cell (by rw [← hwo]; simp [go_sem])
            have q9 : ∀ x : Kept wo, x.1.cell? ⟨wr.heap.size, 9, none⟩ = some (.slice qa (cnf ds 0).2.2.1.length qc) := fun x => x.cell (by rw [← hwo]; simp [go_sem])
            have q10 : ∀ x : Kept wo, x.1.cell? ⟨wr.heap.size, 10, none⟩ = some (.slice ua (cnf ds 0).2.2.2.length uc) := fun x => x.cell (by rw [← hwo]; simp [go_sem])
            clear c0 c1 c2 c3 c4 c5 c6 c7 c8 c9 c10 hwo
            have HC2 := Lib.hid (fun u (hu : Below wo.heap.size wo u) => HC.out u (BO.out.trans (hu.mono BO.out.size)))
            refine wp_region_kept (by kernel_rfl) (by kernel_rfl) ?_
            repeat (go_big_quiet_step (exact Kept.calls _ (HC2.out _ (Subtype.property _))))
            refine wpQuiet_nil ?_
            rintro wn ⟨x, e⟩
            have hbn : Below wo.heap.size wo wn := by rw [e]; exact x.2
            clear e x
            have B : Hid (Below w.heap.size w wn) := HB.out.trans ((BO.out.mono hsz).trans (hbn.mono (Nat.le_trans hsz BO.out.size)))
            clear hbn q0 q1 q2 q3 q4 q5 q6 q7 q8 q9 q10
            go_wp2
            go_roundw
            case rel => exact ⟨1, by omega, by go_num, B.out, fun i hi => by obtain rfl : i = 0 := (by omega); exact HS.out⟩
            case measure => simp [intOf]; omega
          · obtain ⟨b', off', _, _, _, _, _, _, _, _, he, hy⟩ := HP.out (k - 1) (by omega)
            obtain ⟨rfl, rfl⟩ : b = b' ∧ off = off' := by simpa using he
            clear he
            have d0 := (hy.below HB.out).c0
            clear hy
            obtain ⟨j, rfl⟩ : ∃ j, k = j + 1 := ⟨k - 1, by omega⟩
            simp only [Nat.add_sub_cancel] at d0
            have hg : decide ((0 : Int) < ((j + 1 : Nat) : Int)) = true := by simp
            have hw1 : IntKind.i64.wrap (((j + 1 : Nat) : Int) - 1) = (j : Int) := by rw [IntWalk.i64_in _ (by omega)]; omega
            have HC := B0
            rw [hx] at HC
            clear B0
            by_cases hq : cb ds (j + 1) < cb ds j
            · have HS : Hid (chGood ds (j + 1) = false) := by
                have : cb ds (j + 1) ≤ cb ds j := List.le_of_lt hq
                simp [Hid, chGood, this]
              have e1 := less_of hq
              have e3 := less_not (List.lt_asymm hq)
              clear hq hx
              go_wp2
              generalize hwo : wr.alloc _ = wo
              have BO : Hid (Below wr.heap.size wr wo) := by rw [← hwo]; exact A0.out _
              have q0 : ∀ x : Kept wo, x.1.cell? ⟨wr.heap.size, 0, none⟩ = some (.string (cid ds (j + 1))) := fun x => x.cell (by rw [← hwo]; simp [go_sem])
              have q1 : ∀ x : Kept wo, x.1.cell? ⟨wr.heap.size, 1, none⟩ = some (.bool (chd ds (j + 1))) := fun x => x.cell (by rw [← hwo]; simp [go_sem])
              have q2 : ∀ x : Kept wo, x.1.cell? ⟨wr.heap.size, 2, none⟩ = some (.string (cwf ds (j + 1)).1) := fun x => x.cell (by rw [← hwo]; simp [go_sem])
              have q3 : ∀ x : Kept wo, x.1.cell? ⟨wr.heap.size, 3, none⟩ = some (.int .i64 (cwf ds (j + 1)).2.1) := fun x => x.cell (by rw [← hwo]; simp [go_sem])
              have q4 : ∀ x : Kept wo, x.1.cell? ⟨wr.heap.size, 4, none⟩ = some (.slice pa (cwf ds (j + 1)).2.2.1.length pc) := fun x => x.cell (by rw [← hwo]; simp [go_sem])
              have q5 : ∀ x : Kept wo, x.1.cell? ⟨wr.heap.size, 5, none⟩ = some (.slice ta (cwf ds (j + 1)).2.2.2.length tc) := fun x => x.cell (by rw [← hwo]; simp [go_sem])
              have q6 : ∀ x : Kept wo, x.1.cell? ⟨wr.heap.size, 6, none⟩ = some (.bool (chs ds (j + 1))) := fun x => x.cell (by rw [← hwo]; simp [go_sem])
              have q7 : ∀ x : Kept wo, x.1.cell? ⟨wr.heap.size, 7, none⟩ = some (.string (cnf ds (j + 1)).1) := fun x => x.cell (by rw [← hwo]; simp [go_sem])
              have q8 : ∀ x : Kept wo, x.1.cell? ⟨wr.heap.size, 8, none⟩ = some (.int .i64 (cnf ds (j + 1)).2.1) := fun x => x.cell (by rw [← hwo]; simp [go_sem])
              have q9 : ∀ x : Kept wo, x.1.cell? ⟨wr.heap.size, 9, none⟩ = some (.slice qa (cnf ds (j + 1)).2.2.1.length qc) := fun x => x.cell (by rw [← hwo]; simp [go_sem])
              have q10 : ∀ x : Kept wo, x.1.cell? ⟨wr.heap.size, 10, none⟩ = some (.slice ua (cnf ds (j + 1)).2.2.2.length uc) := fun x => x.cell (by rw [← hwo]; simp [go_sem])
              have q11 : ∀ x : Kept wo, x.1.cell? ⟨b, off + j * 11, none⟩ = some (.string (cid ds j)) := fun x => x.cell (cell_later BO.out d0)
              clear d0
              clear c0 c1 c2 c3 c4 c5 c6 c7 c8 c9 c10 hwo
              have HC2 := Lib.hid (fun u (hu : Below wo.heap.size wo u) => HC.out u (BO.out.trans (hu.mono BO.out.size)))
              refine wp_region_kept (by kernel_rfl) (by kernel_rfl) ?_
              repeat (go_big_quiet_step (exact Kept.calls _ (HC2.out _ (Subtype.property _))))
              refine wpQuiet_nil ?_
              rintro wn ⟨x, e⟩
              have hbn : Below wo.heap.size wo wn := by rw [e]; exact x.2
              clear e x
              have B : Hid (Below w.heap.size w wn) := HB.out.trans ((BO.out.mono hsz).trans (hbn.mono (Nat.le_trans hsz BO.out.size)))
              clear hbn q0 q1 q2 q3 q4 q5 q6 q7 q8 q9 q10 q11
              go_wp2
              go_ret
              exact ⟨by rw [diffOk_not hlt HS.out]; rfl, B.out⟩
            · have e1 := less_not hq
              by_cases hr : cb ds (j + 1) = cb ds j
              · have HS : Hid (chGood ds (j + 1) = false) := by
                  have : cb ds (j + 1) ≤ cb ds j := by rw [hr]; exact List.le_refl _
                  simp [Hid, chGood, this]
                have e2 := beq_of hr
                have e4 := beq_of hr.symm
                have e3 := less_not (x := cid ds j) (y := cid ds (j + 1)) (fun h => hq (by have h2 := h; unfold cb at hr; rw [hr] at h2; exact absurd h2 (List.lt_irrefl _)))
                clear hq hr hx
                go_wp2
                generalize hwo : wr.alloc _ = wo
                have BO : Hid (Below wr.heap.size wr wo) := by rw [← hwo]; exact A0.out _
                have q0 : ∀ x : Kept wo, x.1.cell? ⟨wr.heap.size, 0, none⟩ = some (.string (cid ds (j + 1))) := fun x => x.cell (by rw [← hwo]; simp [go_sem])
                have q1 : ∀ x : Kept wo, x.1.cell? ⟨wr.heap.size, 1, none⟩ = some (.bool (chd ds (j + 1))) := fun x => x.cell (by rw [← hwo]; simp [go_sem])
                have q2 : ∀ x : Kept wo, x.1.cell? ⟨wr.heap.size, 2, none⟩ = some (.string (cwf ds (j + 1)).1) := fun x => x.cell (by rw [← hwo]; simp [go_sem])
                have q3 : ∀ x : Kept wo, x.1.cell? ⟨wr.heap.size, 3, none⟩ = some (.int .i64 (cwf ds (j + 1)).2.1) := fun x => x.cell (by rw [← hwo]; simp [go_sem])
                have q4 : ∀ x : Kept wo, x.1.cell? ⟨wr.heap.size, 4, none⟩ = some (.slice pa (cwf ds (j + 1)).2.2.1.length pc) := fun x => x.cell (by rw [← hwo]; simp [go_sem])
                have q5 : ∀ x : Kept wo, x.1.cell? ⟨wr.heap.size, 5, none⟩ = some (.slice ta (cwf ds (j + 1)).2.2.2.length tc) := fun x => x.cell (by rw [← hwo]; simp [go_sem])
                have q6 : ∀ x : Kept wo, x.1.cell? ⟨wr.heap.size, 6, none⟩ = some (.bool (chs ds (j + 1))) := fun x => x.cell (by rw [← hwo]; simp [go_sem])
                have q7 : ∀ x : Kept wo, x.1.cell? ⟨wr.heap.size, 7, none⟩ = some (.string (cnf ds (j + 1)).1) := fun x => x.cell (by rw [← hwo]; simp [go_sem])
                have q8 : ∀ x : Kept wo, x.1.cell? ⟨wr.heap.size, 8, none⟩ = some (.int .i64 (cnf ds (j + 1)).2.1) := fun x => x.cell (by rw [← hwo]; simp [go_sem])
                have q9 : ∀ x : Kept wo, x.1.cell? ⟨wr.heap.size, 9, none⟩ = some (.slice qa (cnf ds (j + 1)).2.2.1.length qc) := fun x => x.cell (by rw [← hwo]; simp [go_sem])
                have q10 : ∀ x : Kept wo, x.1.cell? ⟨wr.heap.size, 10, none⟩ = some (.slice ua (cnf ds (j + 1)).2.2.2.length uc) := fun x => x.cell (by rw [← hwo]; simp [go_sem])
                have q11 : ∀ x : Kept wo, x.1.cell? ⟨b, off + j * 11, none⟩ = some (.string (cid ds j)) := fun x => x.cell (cell_later BO.out d0)
                clear d0
                clear c0 c1 c2 c3 c4 c5 c6 c7 c8 c9 c10 hwo
                have HC2 := Lib.hid (fun u (hu : Below wo.heap.size wo u) => HC.out u (BO.out.trans (hu.mono BO.out.size)))
                refine wp_region_kept (by kernel_rfl) (by kernel_rfl) ?_
                repeat (go_big_quiet_step (exact Kept.calls _ (HC2.out _ (Subtype.property _))))
                refine wpQuiet_nil ?_
                rintro wn ⟨x, e⟩
                have hbn : Below wo.heap.size wo wn := by rw [e]; exact x.2
                clear e x
                have B : Hid (Below w.heap.size w wn) := HB.out.trans ((BO.out.mono hsz).trans (hbn.mono (Nat.le_trans hsz BO.out.size)))
                clear hbn q0 q1 q2 q3 q4 q5 q6 q7 q8 q9 q10 q11
                go_wp2
                go_ret
                exact ⟨by rw [diffOk_not hlt HS.out]; rfl, B.out⟩
              · have HS : Hid (chGood ds (j + 1) = true) := by
                  have : ¬ cb ds (j + 1) ≤ cb ds j := fun h => hq (lt_of_le_ne h (fun e => hr e.symm))
                  simp [Hid, chGood, hx, this]
                have e2 := beq_not hr
                have e4 := beq_not (fun e => hr e.symm)
                have e3 : Op.bytesLess (cid ds j).toList (cid ds (j + 1)).toList = true := less_of (lt_of_le_ne hq hr)
                clear hq hr hx
                go_wp2
                generalize hwo : wr.alloc _ = wo
                have BO : Hid (Below wr.heap.size wr wo) := by rw [← hwo]; exact A0.out _
                have q0 : ∀ x : Kept wo, x.1.cell? ⟨wr.heap.size, 0, none⟩ = some (.string (cid ds (j + 1))) := fun x => x.cell (by rw [← hwo]; simp [go_sem])
                have q1 : ∀ x : Kept wo, x.1.cell? ⟨wr.heap.size, 1, none⟩ = some (.bool (chd ds (j + 1))) := fun x => x.cell (by rw [← hwo]; simp [go_sem])
                have q2 : ∀ x : Kept wo, x.1.cell? ⟨wr.heap.size, 2, none⟩ = some (.string (cwf ds (j + 1)).1) := fun x => x.cell (by rw [← hwo]; simp [go_sem])
                have q3 : ∀ x : Kept wo, x.1.cell? ⟨wr.heap.size, 3, none⟩ = some (.int .i64 (cwf ds (j + 1)).2.1) := fun x => x.cell (by rw [← hwo]; simp [go_sem])
                have q4 : ∀ x : Kept wo, x.1.cell? ⟨wr.heap.size, 4, none⟩ = some (.slice pa (cwf ds (j + 1)).2.2.1.length pc) := fun x => x.cell (by rw [← hwo]; simp [go_sem])
                have q5 : ∀ x : Kept wo, x.1.cell? ⟨wr.heap.size, 5, none⟩ = some (.slice ta (cwf ds (j + 1)).2.2.2.length tc) := fun x => x.cell (by rw [← hwo]; simp [go_sem])
                have q6 : ∀ x : Kept wo, x.1.cell? ⟨wr.heap.size, 6, none⟩ = some (.bool (chs ds (j + 1))) := fun x => x.cell (by rw [← hwo]; simp [go_sem])
                have q7 : ∀ x : Kept wo, x.1.cell? ⟨wr.heap.size, 7, none⟩ = some (.string (cnf ds (j + 1)).1) := fun x => x.cell (by rw [← hwo]; simp [go_sem])
                have q8 : ∀ x : Kept wo, x.1.cell? ⟨wr.heap.size, 8, none⟩ = some (.int .i64 (cnf ds (j + 1)).2.1) := fun x => x.cell (by rw [← hwo]; simp [go_sem])
                have q9 : ∀ x : Kept wo, x.1.cell? ⟨wr.heap.size, 9, none⟩ = some (.slice qa (cnf ds (j + 1)).2.2.1.length qc) := fun x => x.cell (by rw [← hwo]; simp [go_sem])
                have q10 : ∀ x : Kept wo, x.1.cell? ⟨wr.heap.size, 10, none⟩ = some (.slice ua (cnf ds (j + 1)).2.2.2.length uc) := fun x => x.cell (by rw [← hwo]; simp [go_sem])
                have q11 : ∀ x : Kept wo, x.1.cell? ⟨b, off + j * 11, none⟩ = some (.string (cid ds j)) := fun x => x.cell (cell_later BO.out d0)
                clear d0
                clear c0 c1 c2 c3 c4 c5 c6 c7 c8 c9 c10 hwo
                have HC2 := Lib.hid (fun u (hu : Below wo.heap.size wo u) => HC.out u (BO.out.trans (hu.mono BO.out.size)))
                refine wp_region_kept (by kernel_rfl) (by kernel_rfl) ?_
                repeat (go_big_quiet_step (exact Kept.calls _ (HC2.out _ (Subtype.property _))))
                refine wpQuiet_nil ?_
                rintro wn ⟨x, e⟩
                have hbn : Below wo.heap.size wo wn := by rw [e]; exact x.2
                clear e x
                have B : Hid (Below w.heap.size w wn) := HB.out.trans ((BO.out.mono hsz).trans (hbn.mono (Nat.le_trans hsz BO.out.size)))
                clear hbn q0 q1 q2 q3 q4 q5 q6 q7 q8 q9 q10 q11
                go_wp2
                go_roundw
                case rel => exact ⟨j + 1 + 1, by omega, by go_num, B.out, fun i hi => by by_cases e : i = j + 1; (subst e; exact HS.out); exact HA.out i (by omega)⟩
                case measure => simp [intOf]; omega
        · have hx' : chOkAt ds k = false := by simpa using hx
          have HS : Hid (chGood ds k = false) := by simp [Hid, chGood, hx']
          have HC := B0
          rw [hx'] at HC
          clear B0 hx hx'
          go_wp2
          generalize hwo : wr.alloc _ = wo
          have BO : Hid (Below wr.heap.size wr wo) := by rw [← hwo]; exact A0.out _
          have q0 : ∀ x : Kept wo, x.1.cell? ⟨wr.heap.size, 0, none⟩ = some (.string (cid ds k)) := fun x => x.cell (by rw [← hwo]; simp [go_sem])
          have q1 : ∀ x : Kept wo, x.1.cell? ⟨wr.heap.size, 1, none⟩ = some (.bool (chd ds k)) := fun x => x.cell (by rw [← hwo]; simp [go_sem])
          have q2 : ∀ x : Kept wo, x.1.cell? ⟨wr.heap.size, 2, none⟩ = some (.string (cwf ds k).1) := fun x => x.cell (by rw [← hwo]; simp [go_sem])
          have q3 : ∀ x : Kept wo, x.1.cell? ⟨wr.heap.size, 3, none⟩ = some (.int .i64 (cwf ds k).2.1) := fun x => x.cell (by rw [← hwo]; simp [go_sem])
          have q4 : ∀ x : Kept wo, x.1.cell? ⟨wr.heap.size, 4, none⟩ = some (.slice pa (cwf ds k).2.2.1.length pc) := fun x => x.cell (by rw [← hwo]; simp [go_sem])
          have q5 : ∀ x : Kept wo, x.1.cell? ⟨wr.heap.size, 5, none⟩ = some (.slice ta (cwf ds k).2.2.2.length tc) := fun x => x.cell (by rw [← hwo]; simp [go_sem])
          have q6 : ∀ x : Kept wo, x.1.cell? ⟨wr.heap.size, 6, none⟩ = some (.bool (chs ds k)) := fun x => x.cell (by rw [← hwo]; simp [go_sem])
          have q7 : ∀ x : Kept wo, x.1.cell? ⟨wr.heap.size, 7, none⟩ = some (.string (cnf ds k).1) := fun x => x.cell (by rw [← hwo]; simp [go_sem])
          have q8 : ∀ x : Kept wo, x.1.cell? ⟨wr.heap.size, 8, none⟩ = some (.int .i64 (cnf ds k).2.1) := fun x => x.cell (by rw [← hwo]; simp [go_sem])
          have q9 : ∀ x : Kept wo, x.1.cell? ⟨wr.heap.size, 9, none⟩ = some (.slice qa (cnf ds k).2.2.1.length qc) := fun x => x.cell (by rw [← hwo]; simp [go_sem])
          have q10 : ∀ x : Kept wo, x.1.cell? ⟨wr.heap.size, 10, none⟩ = some (.slice ua (cnf ds k).2.2.2.length uc) := fun x => x.cell (by rw [← hwo]; simp [go_sem])
          clear c0 c1 c2 c3 c4 c5 c6 c7 c8 c9 c10 hwo
          have HC2 := Lib.hid (fun u (hu : Below wo.heap.size wo u) => HC.out u (BO.out.trans (hu.mono BO.out.size)))
          refine wp_region_kept (by kernel_rfl) (by kernel_rfl) ?_
          repeat (go_big_quiet_step (exact Kept.calls _ (HC2.out _ (Subtype.property _))))
          refine wpQuiet_nil ?_
          rintro wn ⟨x, e⟩
          have hbn : Below wo.heap.size wo wn := by rw [e]; exact x.2
          clear e x
          have B : Hid (Below w.heap.size w wn) := HB.out.trans ((BO.out.mono hsz).trans (hbn.mono (Nat.le_trans hsz BO.out.size)))
          clear hbn q0 q1 q2 q3 q4 q5 q6 q7 q8 q9 q10
          go_wp2
          go_ret
          exact ⟨by rw [diffOk_not hlt HS.out]; rfl, B.out⟩
      · obtain rfl : k = ds.length := by omega
        have HT := Lib.hid (chsGood_of HA.out)
        clear hbel
        go_wp2
        go_ret
        exact ⟨by unfold diffOk; rw [HT.out]; simp [h16], HB.out⟩
  · go_enter Tryz.func76, Tryz.ntmps76
    go_wp2
    go_ret
    exact ⟨by simp [diffOk, h16], Below.refl _ _⟩
  
end Go.Proofs.YtccgbengfmlgbaaGreat

namespace Go.Proofs.YtccgbengfmlgbaaGreat
set_option linter.unusedVariables false
open Go.ChangeShapes Go.WideShapes Go.ChangeAt Go.RowKit

theorem grown_below {w w' : World} {r : Option Nat} (hb : Below w.heap.size w w') : w.grownBy w' r := ⟨hb.os, hb.tape, hb.output, hb.size, fun k hk _ => hb.block k hk⟩
theorem grown_drew (w : World) (r : Option Nat) : w.grownBy w.drew r := grown_below (Below.refl _ _).drew

/-- the four parts of a change, behind two copies of which one came behind the other -/
theorem parts_two {W w1 w2 : World} {f g : Ft} {xa ya za va : Option Addr} {xc yc zc vc : Nat}
    (p1 : PtsAt w1 xa f.2.2.1) (p2 : Soft w1 xa f.2.2.1.length) (p3 : Fresh W w1 xa) (p4 : TagsAt w1 ya f.2.2.2) (p5 : Soft w1 ya f.2.2.2.length) (p6 : Fresh W w1 ya) (p7 : Apart xa ya)
    (q1 : PtsAt w2 za g.2.2.1) (q2 : Soft w2 za g.2.2.1.length) (q3 : Fresh w1 w2 za) (q4 : TagsAt w2 va g.2.2.2) (q5 : Soft w2 va g.2.2.2.length) (q6 : Fresh w1 w2 va) (q7 : Apart za va) (hW : W.heap.size ≤ w1.heap.size) (hb : Below w1.heap.size w1 w2) :
    (PtsAt w2 xa f.2.2.1 ∧ Soft w2 xa f.2.2.1.length ∧ Fresh W w2 xa) ∧ (TagsAt w2 ya f.2.2.2 ∧ Soft w2 ya f.2.2.2.length ∧ Fresh W w2 ya) ∧ (PtsAt w2 za g.2.2.1 ∧ Soft w2 za g.2.2.1.length ∧ Fresh W w2 za) ∧ (TagsAt w2 va g.2.2.2 ∧ Soft w2 va g.2.2.2.length ∧ Fresh W w2 va) ∧
      (Apart xa ya ∧ Apart za va) ∧ (Apart xa za ∧ Apart xa va) ∧ (Apart ya za ∧ Apart ya va) := by
  have hs := hb.size
  have far : ∀ {x y : Option Addr}, Fresh W w1 x → Fresh w1 w2 y → Apart x y := fun h1 h2 z hx hy => by
    have a1 := (h1 z hx).2
    have a2 := (h2 z hy).1
    omega
  exact ⟨⟨p1.below hb, p2.below p1 hb, fun x hx => ⟨(p3 x hx).1, Nat.lt_of_lt_of_le (p3 x hx).2 hs⟩⟩, ⟨p4.below hb, p5.belowT p4 hb, fun x hx => ⟨(p6 x hx).1, Nat.lt_of_lt_of_le (p6 x hx).2 hs⟩⟩,
    ⟨q1, q2, fun x hx => ⟨Nat.le_trans hW (q3 x hx).1, (q3 x hx).2⟩⟩, ⟨q4, q5, fun x hx => ⟨Nat.le_trans hW (q6 x hx).1, (q6 x hx).2⟩⟩, ⟨p7, q7⟩, ⟨far p3 q3, far p3 q6⟩, far p6 q3, far p6 q6⟩

theorem Apart.symm {a c : Option Addr} (h : Apart a c) : Apart c a := fun x hx hy => h x hy hx

/-- the parts of what is turned back -/
theorem parts_back {W w2 : World} {i : ByteArray} {h : Bool} {f : Ft} {s : Bool} {g : Ft} {xa ya za va : Option Addr} {xc yc zc vc : Nat}
    (H : (PtsAt w2 xa f.2.2.1 ∧ Soft w2 xa f.2.2.1.length ∧ Fresh W w2 xa) ∧ (TagsAt w2 ya f.2.2.2 ∧ Soft w2 ya f.2.2.2.length ∧ Fresh W w2 ya) ∧ (PtsAt w2 za g.2.2.1 ∧ Soft w2 za g.2.2.1.length ∧ Fresh W w2 za) ∧ (TagsAt w2 va g.2.2.2 ∧ Soft w2 va g.2.2.2.length ∧ Fresh W w2 va) ∧
      (Apart xa ya ∧ Apart za va) ∧ (Apart xa za ∧ Apart xa va) ∧ (Apart ya za ∧ Apart ya va)) :
    (∀ r, r < 4 → PartC w2 (i, s, g, h, f) (fun r => match r with | 0 => (za, zc) | 1 => (va, vc) | 2 => (xa, xc) | _ => (ya, yc) : PlC) r) ∧ (∀ r, r < 4 → Fresh W w2 ((fun r => match r with | 0 => (za, zc) | 1 => (va, vc) | 2 => (xa, xc) | _ => (ya, yc) : PlC) r).1) ∧ (∀ r q, r < 4 → q < 4 → r ≠ q → Apart ((fun r => match r with | 0 => (za, zc) | 1 => (va, vc) | 2 => (xa, xc) | _ => (ya, yc) : PlC) r).1 ((fun r => match r with | 0 => (za, zc) | 1 => (va, vc) | 2 => (xa, xc) | _ => (ya, yc) : PlC) q).1) := by
  obtain ⟨⟨x1, x2, x3⟩, ⟨y1, y2, y3⟩, ⟨z1, z2, z3⟩, ⟨v1, v2, v3⟩, ⟨a1, a2⟩, ⟨a3, a4⟩, a5, a6⟩ := H
  refine ⟨fun r hr => ?_, fun r hr => ?_, fun r q hr hq hne => ?_⟩
  · rcases r with _ | _ | _ | _ | r
    · exact ⟨z1, z2⟩
    · exact ⟨v1, v2⟩
    · exact ⟨x1, x2⟩
    · exact ⟨y1, y2⟩
    · omega
  · rcases r with _ | _ | _ | _ | r
    · exact z3
    · exact v3
    · exact x3
    · exact y3
    · omega
  · rcases r with _ | _ | _ | _ | r <;> rcases q with _ | _ | _ | _ | q <;> first | exact absurd rfl hne | omega | exact a1 | exact a2 | exact a3 | exact a4 | exact a5 | exact a6 | exact a1.symm | exact a2.symm | exact a3.symm | exact a4.symm | exact a5.symm | exact a6.symm

end Go.Proofs.YtccgbengfmlgbaaGreat

namespace Go.Proofs.YtccgbengfmlgbaaGreat
set_option linter.unusedVariables false
open Go.ChangeShapes Go.WideShapes Go.ChangeAt Go.RowKit Go.Deep Go.Shelf Go.Maps

attribute [local go_sem] Oper.semAt_some

/-- cells of some type -/
def CellsOf (t : TypeId) (o : Obj) : Prop := ∃ c fz, o = .cells c t fz
/-- what is no cells and no map -/
def Rec (o : Obj) : Prop := o.isCells = false ∧ o.isWalk = false
/-- what a round of a loop over changes may turn: one box, and from a block on changes' cells and records -/
def ChgC (lo B k : Nat) (o : Obj) : Prop := k = B ∨ (lo ≤ k ∧ (CellsOf 102 o ∨ Rec o))

theorem cellsOf_iff (t t' : TypeId) (c : Array Value) (fz : Nat × Nat) : CellsOf t (.cells c t' fz) ↔ t' = t :=
  ⟨fun ⟨c', fz', h⟩ => by injection h, fun h => by subst h; exact ⟨c, fz, rfl⟩⟩
theorem not_rec (c : Array Value) (t : TypeId) (fz : Nat × Nat) : ¬ Rec (.cells c t fz) := fun h => by cases h.1
theorem not_cellsOf_map (t : TypeId) (es : Array MapEntry) (c : Nat) : ¬ CellsOf t (.map es c) := fun ⟨_, _, h⟩ => by cases h
theorem not_rec_map (es : Array MapEntry) (c : Nat) : ¬ Rec (.map es c) := fun h => by cases h.2

theorem chgC_map {lo B b : Nat} (h : b ≠ B) (es : Array MapEntry) (c : Nat) : ¬ ChgC lo B b (.map es c) := by
  rintro (e | ⟨_, e | e⟩)
  · exact h e
  · exact not_cellsOf_map _ _ _ e
  · exact not_rec_map _ _ e
theorem chgC_cells {lo B b : Nat} {t : TypeId} (h : b ≠ B) (ht : t ≠ 102) (c : Array Value) (fz : Nat × Nat) : ¬ ChgC lo B b (.cells c t fz) := by
  rintro (e | ⟨_, e | e⟩)
  · exact h e
  · rw [cellsOf_iff] at e; exact ht e
  · exact not_rec _ _ _ e

theorem Only.turnedC {A C : World} {lo B : Nat} (h : Only A C (ChgC lo B)) : Turned A C (fun y => y = B ∨ lo ≤ y) :=
  ⟨h.os, h.tape, h.output, h.size, fun k hk hn => by
    have e : A.heap[k]? = some A.heap[k] := Array.getElem?_eq_getElem hk
    rw [e]
    exact h.block k _ e (fun q => hn (q.imp id fun q => q.1))⟩

/-- what is handed over lies in memory made since -/
def GivesC (x : Ch × PlC) (Wp W : World) : Prop := (∀ r, r < 4 → PartC W x.1 x.2 r) ∧ (∀ r, r < 4 → Fresh Wp W (x.2 r).1) ∧ ∀ r q, r < 4 → q < 4 → r ≠ q → Apart (x.2 r).1 (x.2 q).1
/-- the values that a change is handed over as -/
def chV (x : Ch × PlC) : Array Value := #[.agg #[.string x.1.1, .bool x.1.2.1, .string x.1.2.2.1.1, .int .i64 x.1.2.2.1.2.1, .slice (x.2 0).1 x.1.2.2.1.2.2.1.length (x.2 0).2, .slice (x.2 1).1 x.1.2.2.1.2.2.2.length (x.2 1).2, .bool x.1.2.2.2.1, .string x.1.2.2.2.2.1, .int .i64 x.1.2.2.2.2.2.1, .slice (x.2 2).1 x.1.2.2.2.2.2.2.1.length (x.2 2).2, .slice (x.2 3).1 x.1.2.2.2.2.2.2.2.length (x.2 3).2]]

/-- a look-up tells the thing of a name, if there is one -/
theorem look_at {w0 w : World} {b n : Nat} {D : DataW Value} {us : List En} {t : List Ft} {id : ByteArray} (hown : w.ownsMap Tryz.prog 9 heldElem b n D) (ht : TellsF D us) (he : Ents w0 us t) (hi : id.size ≤ 1048576) :
    ∃ xa xc ya yc, (Instr.lookup 92 (.map (some b)) (.string id) true).run Tryz.prog w = .ok (.tuple #[.agg #[.string (sideOf t id).2.1, .int .i64 (sideOf t id).2.2.1, .slice xa (sideOf t id).2.2.2.1.length xc, .slice ya (sideOf t id).2.2.2.2.length yc], .bool (sideOf t id).1]) w ∧
      PtsAt w0 xa (sideOf t id).2.2.2.1 ∧ TagsAt w0 ya (sideOf t id).2.2.2.2 := by
  rw [sideOf_first]
  by_cases hlt : firstF t id < t.length
  · rw [if_pos hlt]
    have hat := firstF_at hlt
    obtain ⟨hk, pa, pc, ta, tc, hev, hpp, htt⟩ := he.2 _ hlt
    refine ⟨pa, pc, ta, tc, ?_, hpp, htt⟩
    have := look_hit2 hown ht (i := firstF t id) (by rw [he.1]; exact hlt) (by rw [hk, hat]; unfold maxLen; omega)
    rw [hk, hat, hev] at this
    exact this
  · rw [if_neg hlt]
    refine ⟨none, 0, none, 0, ?_, PtsAt.nil _ _, TagsAt.nil _ _⟩
    exact look_miss2 hown ht he (firstF_none hlt) (by unfold maxLen; omega)

theorem PtsAt.far {W0 W w' : World} {a : Option Addr} {ps : List (Int × Int)} {S : Nat → Prop} (h : PtsAt W0 a ps) (hb : Below W0.heap.size W0 W) (ht : Turned W w' S) (hS : ∀ x, x < W0.heap.size → ¬ S x) : PtsAt w' a ps := by
  intro i hi
  obtain ⟨b, off, rfl, hlt, h1, h2⟩ := h i hi
  exact ⟨b, off, rfl, Nat.lt_of_lt_of_le (Nat.lt_of_lt_of_le hlt hb.size) ht.size, ht.cell (cell_later hb h1) (hS b hlt), ht.cell (cell_later hb h2) (hS b hlt)⟩
theorem TagsAt.far {W0 W w' : World} {a : Option Addr} {ts : List Tg} {S : Nat → Prop} (h : TagsAt W0 a ts) (hb : Below W0.heap.size W0 W) (ht : Turned W w' S) (hS : ∀ x, x < W0.heap.size → ¬ S x) : TagsAt w' a ts := by
  intro i hi
  obtain ⟨b, off, rfl, hlt, h1, h2⟩ := h i hi
  exact ⟨b, off, rfl, Nat.lt_of_lt_of_le (Nat.lt_of_lt_of_le hlt hb.size) ht.size, ht.cell (cell_later hb h1) (hS b hlt), ht.cell (cell_later hb h2) (hS b hlt)⟩

theorem ofN_none {fs gs : List Ft} {ns : List ByteArray} {j : Nat} (h : j < ns.length) (ht : turnsC (chB fs gs (sx ns j)) = false) : ofN fs gs (ns.take (j + 1)) = ofN fs gs (ns.take j) := by
  rw [take_sx ns j h, ofN_app, ofN_one, ht]
  simp
theorem ofN_more {fs gs : List Ft} {ns : List ByteArray} {j : Nat} (h : j < ns.length) (ht : turnsC (chB fs gs (sx ns j)) = true) : ofN fs gs (ns.take (j + 1)) = ofN fs gs (ns.take j) ++ [chB fs gs (sx ns j)] := by
  rw [take_sx ns j h, ofN_app, ofN_one, if_pos ht]

theorem strs_of {w : World} {base : Nat} {e : TypeId} {a : Option Addr} {n cap : Nat} {xs : List ByteArray} (h : w.ownsRow base e 1 (.slice a xs.length cap) n (xs.map .string)) (hn : n = xs.length) : StrsAt w a xs := by
  obtain ⟨a', cap', e', h', _⟩ := owned_strs h hn
  obtain ⟨rfl, rfl⟩ : a = a' ∧ cap = cap' := by simpa using e'
  exact h'

/-- a cell behind a store -/
theorem set_get (w : World) (a : Addr) (v : Value) (b : Addr) : (w.setCell a v).cell? b = if b = a then (w.cell? a).map (fun _ => v) else w.cell? b := by
  by_cases h : b = a
  · subst h
    rw [if_pos rfl]
    cases hc : w.cell? b with
    | some u => rw [World.cell?_setCell_same _ _ _ hc]; rfl
    | none =>
      rw [Option.map_none]
      simp only [World.cell?, World.setCell, Array.getElem?_modify, if_true] at hc ⊢
      cases ho : w.heap[b.block]? with
      | none => simp
      | some o => 
        rw [ho] at hc
        cases o <;> simp_all
  · rw [if_neg h, World.cell?_setCell_other _ _ _ _ (fun e => h e.symm)]

/-- a change in a box -/
def CellsC (w : World) (c : Nat) (i : ByteArray) (h : Bool) (f : Ft) (s : Bool) (g : Ft) (xa : Option Addr) (xc : Nat) (ya : Option Addr) (yc : Nat) (za : Option Addr) (zc : Nat) (va : Option Addr) (vc : Nat) : Prop :=
  w.cell? ⟨c, 0, none⟩ = some (.string i) ∧ w.cell? ⟨c, 1, none⟩ = some (.bool h) ∧ w.cell? ⟨c, 2, none⟩ = some (.string f.1) ∧ w.cell? ⟨c, 3, none⟩ = some (.int .i64 f.2.1) ∧ w.cell? ⟨c, 4, none⟩ = some (.slice xa f.2.2.1.length xc) ∧ w.cell? ⟨c, 5, none⟩ = some (.slice ya f.2.2.2.length yc) ∧
  w.cell? ⟨c, 6, none⟩ = some (.bool s) ∧ w.cell? ⟨c, 7, none⟩ = some (.string g.1) ∧ w.cell? ⟨c, 8, none⟩ = some (.int .i64 g.2.1) ∧ w.cell? ⟨c, 9, none⟩ = some (.slice za g.2.2.1.length zc) ∧ w.cell? ⟨c, 10, none⟩ = some (.slice va g.2.2.2.length vc)

def plC (xa : Option Addr) (xc : Nat) (ya : Option Addr) (yc : Nat) (za : Option Addr) (zc : Nat) (va : Option Addr) (vc : Nat) : PlC := fun r => match r with | 0 => (xa, xc) | 1 => (ya, yc) | 2 => (za, zc) | _ => (va, vc)

def BoxCh (wr wx : World) (c : Nat) (i : ByteArray) (h : Bool) (f : Ft) (s : Bool) (g : Ft) (xa : Option Addr) (xc : Nat) (ya : Option Addr) (yc : Nat) (za : Option Addr) (zc : Nat) (va : Option Addr) (vc : Nat) : Prop :=
  CellsC wx c i h f s g xa xc ya yc za zc va vc ∧ GivesC ((i, h, f, s, g), plC xa xc ya yc za zc va vc) wr wx ∧ Below wr.heap.size wr wx

theorem gives_two {wr w1 w2 : World} {f g : Ft} {xa ya za va : Option Addr} (i : ByteArray) (h s : Bool) (xc yc zc vc : Nat)
    (p1 : PtsAt w1 xa f.2.2.1) (p2 : Soft w1 xa f.2.2.1.length) (p3 : Fresh wr w1 xa) (p4 : TagsAt w1 ya f.2.2.2) (p5 : Soft w1 ya f.2.2.2.length) (p6 : Fresh wr w1 ya) (p7 : Apart xa ya)
    (q1 : PtsAt w2 za g.2.2.1) (q2 : Soft w2 za g.2.2.1.length) (q3 : Fresh w1 w2 za) (q4 : TagsAt w2 va g.2.2.2) (q5 : Soft w2 va g.2.2.2.length) (q6 : Fresh w1 w2 va) (q7 : Apart za va) (hW : wr.heap.size ≤ w1.heap.size) (hb : Below w1.heap.size w1 w2) :
    GivesC ((i, h, f, s, g), plC xa xc ya yc za zc va vc) wr w2 := by
  have K := parts_two p1 p2 p3 p4 p5 p6 p7 q1 q2 q3 q4 q5 q6 q7 hW hb (xc := 0) (yc := 0) (zc := 0) (vc := 0)
  exact parts_back (i := i) (h := s) (s := h) (f := g) (g := f) (xc := zc) (yc := vc) (zc := xc) (vc := yc) ⟨K.2.2.1, K.2.2.2.1, K.1, K.2.1, ⟨K.2.2.2.2.1.2, K.2.2.2.2.1.1⟩, ⟨K.2.2.2.2.2.1.1.symm, K.2.2.2.2.2.2.1.symm⟩, K.2.2.2.2.2.1.2.symm, K.2.2.2.2.2.2.2.symm⟩

theorem GivesC.below {x : Ch × PlC} {wp w w' : World} (h : GivesC x wp w) (hb : Below w.heap.size w w') : GivesC x wp w' :=
  ⟨fun r hr => PartC.below hb hr (h.1 r hr), fun r hr y hy => ⟨(h.2.1 r hr y hy).1, Nat.lt_of_lt_of_le (h.2.1 r hr y hy).2 hb.size⟩, h.2.2⟩

theorem cutC_late {wr wn : World} {i : ByteArray} {h : Bool} {f : Ft} {s : Bool} {g : Ft} {xa ya za va : Option Addr} {xc yc zc vc : Nat} {t : TypeId} (hg : GivesC ((i, h, f, s, g), plC xa xc ya yc za zc va vc) wr wn) (hb : Below wr.heap.size wr wn) :
    BoxCh wr (wn.alloc (.cells #[.string i, .bool h, .string f.1, .int .i64 f.2.1, .slice xa f.2.2.1.length xc, .slice ya f.2.2.2.length yc, .bool s, .string g.1, .int .i64 g.2.1, .slice za g.2.2.1.length zc, .slice va g.2.2.2.length vc] t)) wn.heap.size i h f s g xa xc ya yc za zc va vc := by
  have ba : ∀ o, Below wn.heap.size wn (wn.alloc o) := fun o => (Below.refl _ _).alloc (Nat.le_refl _) _
  refine ⟨⟨?_, ?_, ?_, ?_, ?_, ?_, ?_, ?_, ?_, ?_, ?_⟩, hg.below (ba _), hb.trans ((ba _).mono hb.size)⟩
  all_goals simp [go_sem]

theorem cutC_set {wr wn : World} {c : Nat} {i : ByteArray} {h : Bool} {f : Ft} {s : Bool} {g : Ft} {xa ya za va : Option Addr} {xc yc zc vc : Nat} (hg : GivesC ((i, h, f, s, g), plC xa xc ya yc za zc va vc) wr wn) (hb : Below wr.heap.size wr wn) (hc : wr.heap.size ≤ c)
    (hs : ∀ o, o < 11 → (wn.cell? ⟨c, o, none⟩).isSome = true) (n1 : blk xa ≠ some c) (n2 : blk ya ≠ some c) (n3 : blk za ≠ some c) (n4 : blk va ≠ some c) :
    BoxCh wr (((((((((((wn.setCell ⟨c, 0, none⟩ (.string i)).setCell ⟨c, 1, none⟩ (.bool h)).setCell ⟨c, 2, none⟩ (.string f.1)).setCell ⟨c, 3, none⟩ (.int .i64 f.2.1)).setCell ⟨c, 4, none⟩ (.slice xa f.2.2.1.length xc)).setCell ⟨c, 5, none⟩ (.slice ya f.2.2.2.length yc)).setCell ⟨c, 6, none⟩ (.bool s)).setCell ⟨c, 7, none⟩ (.string g.1)).setCell ⟨c, 8, none⟩ (.int .i64 g.2.1)).setCell ⟨c, 9, none⟩ (.slice za g.2.2.1.length zc)).setCell ⟨c, 10, none⟩ (.slice va g.2.2.2.length vc)) c i h f s g xa xc ya yc za zc va vc := by
  have ht : ∀ {w w' : World} (o : Nat) (v : Value), Turned w w' (fun y => y = c) → Turned w (w'.setCell ⟨c, o, none⟩ v) (fun y => y = c) := fun o v h => h.trans (Turned.of_set _ _ _ rfl)
  have hT := ht 10 (.slice va g.2.2.2.length vc) (ht 9 (.slice za g.2.2.1.length zc) (ht 8 (.int .i64 g.2.1) (ht 7 (.string g.1) (ht 6 (.bool s) (ht 5 (.slice ya f.2.2.2.length yc) (ht 4 (.slice xa f.2.2.1.length xc) (ht 3 (.int .i64 f.2.1) (ht 2 (.string f.1) (ht 1 (.bool h) (ht 0 (.string i) (Turned.refl wn _)))))))))))
  have nb : ∀ r, r < 4 → ∀ x, blk (plC xa xc ya yc za zc va vc r).1 = some x → ¬ x = c := by
    intro r hr x hx e
    subst e
    rcases r with _ | _ | _ | _ | r
    · exact n1 hx
    · exact n2 hx
    · exact n3 hx
    · exact n4 hx
    · omega
  obtain ⟨u0, k0⟩ := Option.isSome_iff_exists.1 (hs 0 (by omega))
  obtain ⟨u1, k1⟩ := Option.isSome_iff_exists.1 (hs 1 (by omega))
  obtain ⟨u2, k2⟩ := Option.isSome_iff_exists.1 (hs 2 (by omega))
  obtain ⟨u3, k3⟩ := Option.isSome_iff_exists.1 (hs 3 (by omega))
  obtain ⟨u4, k4⟩ := Option.isSome_iff_exists.1 (hs 4 (by omega))
  obtain ⟨u5, k5⟩ := Option.isSome_iff_exists.1 (hs 5 (by omega))
  obtain ⟨u6, k6⟩ := Option.isSome_iff_exists.1 (hs 6 (by omega))
  obtain ⟨u7, k7⟩ := Option.isSome_iff_exists.1 (hs 7 (by omega))
  obtain ⟨u8, k8⟩ := Option.isSome_iff_exists.1 (hs 8 (by omega))
  obtain ⟨u9, k9⟩ := Option.isSome_iff_exists.1 (hs 9 (by omega))
  obtain ⟨u10, k10⟩ := Option.isSome_iff_exists.1 (hs 10 (by omega))
  refine ⟨⟨?_, ?_, ?_, ?_, ?_, ?_, ?_, ?_, ?_, ?_, ?_⟩, ⟨fun r hr => PartC.turned hT hr (hg.1 r hr) (nb r hr), fun r hr x hx => ⟨(hg.2.1 r hr x hx).1, Nat.lt_of_lt_of_le (hg.2.1 r hr x hx).2 hT.size⟩, hg.2.2⟩, hb.trans (hT.below hb.size (fun x e => by omega))⟩
  all_goals simp [set_get, k0, k1, k2, k3, k4, k5, k6, k7, k8, k9, k10]

/-- a box of a change, empty yet -/
def ZeroC (w : World) (c : Nat) : Prop := (w.cell? ⟨c, 0, none⟩ = some (.string ⟨#[]⟩) ∧ w.cell? ⟨c, 1, none⟩ = some (.bool false) ∧ w.cell? ⟨c, 2, none⟩ = some (.string ⟨#[]⟩) ∧ w.cell? ⟨c, 3, none⟩ = some (.int .i64 0) ∧ w.cell? ⟨c, 4, none⟩ = some (.slice none 0 0) ∧ w.cell? ⟨c, 5, none⟩ = some (.slice none 0 0) ∧ w.cell? ⟨c, 6, none⟩ = some (.bool false) ∧ w.cell? ⟨c, 7, none⟩ = some (.string ⟨#[]⟩) ∧ w.cell? ⟨c, 8, none⟩ = some (.int .i64 0) ∧ w.cell? ⟨c, 9, none⟩ = some (.slice none 0 0) ∧ w.cell? ⟨c, 10, none⟩ = some (.slice none 0 0)) ∧ (w.frozen? ⟨c, 0, none⟩ = false ∧ w.frozen? ⟨c, 1, none⟩ = false ∧ w.frozen? ⟨c, 2, none⟩ = false ∧ w.frozen? ⟨c, 3, none⟩ = false ∧ w.frozen? ⟨c, 4, none⟩ = false ∧ w.frozen? ⟨c, 5, none⟩ = false ∧ w.frozen? ⟨c, 6, none⟩ = false ∧ w.frozen? ⟨c, 7, none⟩ = false ∧ w.frozen? ⟨c, 8, none⟩ = false ∧ w.frozen? ⟨c, 9, none⟩ = false ∧ w.frozen? ⟨c, 10, none⟩ = false)
theorem zeroC_new (A : World) : ZeroC (A.alloc (.cells #[.string ⟨#[]⟩, .bool false, .string ⟨#[]⟩, .int .i64 0, .slice none 0 0, .slice none 0 0, .bool false, .string ⟨#[]⟩, .int .i64 0, .slice none 0 0, .slice none 0 0] 102)) A.heap.size := by
  unfold ZeroC
  simp [go_sem]
theorem ZeroC.later {w w' : World} {c : Nat} (h : ZeroC w c) (hb : Below w.heap.size w w') : ZeroC w' c := by
  obtain ⟨⟨k0, k1, k2, k3, k4, k5, k6, k7, k8, k9, k10⟩, f0, f1, f2, f3, f4, f5, f6, f7, f8, f9, f10⟩ := h
  have hlt := World.block_lt_of_cell? _ _ k0
  have hf : ∀ o, w.frozen? ⟨c, o, none⟩ = false → w'.frozen? ⟨c, o, none⟩ = false := fun o h => (hb.frozen (p := ⟨c, o, none⟩) hlt).trans h
  exact ⟨⟨cell_later hb k0, cell_later hb k1, cell_later hb k2, cell_later hb k3, cell_later hb k4, cell_later hb k5, cell_later hb k6, cell_later hb k7, cell_later hb k8, cell_later hb k9, cell_later hb k10⟩, hf 0 f0, hf 1 f1, hf 2 f2, hf 3 f3, hf 4 f4, hf 5 f5, hf 6 f6, hf 7 f7, hf 8 f8, hf 9 f9, hf 10 f10⟩
theorem ZeroC.some {w : World} {c : Nat} (h : ZeroC w c) : ∀ o, o < 11 → (w.cell? ⟨c, o, none⟩).isSome = true := by
  obtain ⟨⟨k0, k1, k2, k3, k4, k5, k6, k7, k8, k9, k10⟩, _⟩ := h
  intro o ho
  rcases o with _ | _ | _ | _ | _ | _ | _ | _ | _ | _ | _ | o
  · rw [k0]; rfl
  · rw [k1]; rfl
  · rw [k2]; rfl
  · rw [k3]; rfl
  · rw [k4]; rfl
  · rw [k5]; rfl
  · rw [k6]; rfl
  · rw [k7]; rfl
  · rw [k8]; rfl
  · rw [k9]; rfl
  · rw [k10]; rfl
  · omega
theorem below_set11 {wo wn : World} {c : Nat} {v0 v1 v2 v3 v4 v5 v6 v7 v8 v9 v10 : Value} (h : Below wo.heap.size wo wn) (hc : wo.heap.size ≤ c) :
    Below wo.heap.size wo (((((((((((wn.setCell ⟨c, 0, none⟩ v0).setCell ⟨c, 1, none⟩ v1).setCell ⟨c, 2, none⟩ v2).setCell ⟨c, 3, none⟩ v3).setCell ⟨c, 4, none⟩ v4).setCell ⟨c, 5, none⟩ v5).setCell ⟨c, 6, none⟩ v6).setCell ⟨c, 7, none⟩ v7).setCell ⟨c, 8, none⟩ v8).setCell ⟨c, 9, none⟩ v9).setCell ⟨c, 10, none⟩ v10) :=
  ((((((((((h.setCell hc _).setCell hc _).setCell hc _).setCell hc _).setCell hc _).setCell hc _).setCell hc _).setCell hc _).setCell hc _).setCell hc _).setCell hc _

end Go.Proofs.YtccgbengfmlgbaaGreat

namespace Go.Proofs.YtccgbengfmlgbaaGreat
set_option linter.unusedVariables false
open Go.ChangeShapes Go.WideShapes Go.ChangeAt Go.RowKit Go.Deep Go.Shelf Go.Maps

attribute [local go_sem] Oper.semAt_some

theorem fresh_lo {u u' w' : World} {a : Option Addr} (h : Fresh u w' a) (hu : u'.heap.size ≤ u.heap.size) : Fresh u' w' a := fun x e => ⟨Nat.le_trans hu (h x e).1, (h x e).2⟩

theorem zeroC_drew (A : World) : ZeroC (A.alloc (.cells #[.string ⟨#[]⟩, .bool false, .string ⟨#[]⟩, .int .i64 0, .slice none 0 0, .slice none 0 0, .bool false, .string ⟨#[]⟩, .int .i64 0, .slice none 0 0, .slice none 0 0] 102)).drew A.heap.size := (zeroC_new A).later ((Below.refl _ _).drew)

set_option maxRecDepth 100000 in
set_option maxHeartbeats 8000000 in
theorem changesBetween1_in (n : Nat) (hn : 1 ≤ n) (l E V N lo B : Nat) (be bw bn ne nw nn : Nat) (De Dw Dn : DataW Value) (ue uw un : List En) (ts fs gs : List Ft) (J : List (Ch × PlC) → World → Prop) (W W0 : World) (hJ : AbidesFrom W.heap.size J)
    (hY : ∀ pre (x : Ch × PlC) Wp W1, J pre Wp → Below Wp.heap.size Wp W1 → GivesC x Wp W1 → pre.length < ts.length → YieldAt Fence.wide (n - 1) Tryz.prog l (chV x) W1 fun e W' => e = .returned (.bool true) ∧ J (pre ++ [x]) W' ∧ Only W1 W' (ChgC lo B))
    (h0 : J [] W) (cE : W.cell? ⟨E, 0, none⟩ = some (.map (some be))) (cV : W.cell? ⟨V, 0, none⟩ = some (.map (some bw))) (cN : W.cell? ⟨N, 0, none⟩ = some (.map (some bn)))
    (oE : W.ownsMap Tryz.prog 9 heldElem be ne De) (oW : W.ownsMap Tryz.prog 9 heldElem bw nw Dw) (oN : W.ownsMap Tryz.prog 9 heldElem bn nn Dn)
    (tE : TellsF De ue) (tW : TellsF Dw uw) (tN : TellsF Dn un) (eE : Ents W0 ue ts) (eW : Ents W0 uw fs) (eN : Ents W0 un gs) (lE : FeatsLen ts 1048576) (lW : FeatsLen fs 1048576) (lN : FeatsLen gs 1048576)
    (hW0 : Below W0.heap.size W0 W) (hlo : W0.heap.size ≤ lo) (hB : W0.heap.size ≤ B) (hBW : B < W.heap.size) (hV : V < lo ∧ V ≠ B) (hN : N < lo ∧ N ≠ B) (hbw : bw ≠ B) (hbn : bn ≠ B) (hne : ne ≤ 1048577) :
    CallsIn Fence.wide n Tryz.prog 118 #[.func (.yield l) #[] #[], .pointer (some ⟨E, 0, none⟩), .pointer (some ⟨V, 0, none⟩), .pointer (some ⟨N, 0, none⟩)] W fun e W' => (∃ v, e = .returned v) ∧ ∃ ys : List (Ch × PlC), ys.map (·.1) = ofN fs gs (namesOf ts) ∧ J ys W' := by
  have HJ := Lib.hid hJ
  have HY := Lib.hid hY
  have H0 := Lib.hid h0
  have OE := Lib.hid oE
  have OW := Lib.hid oW
  have ON := Lib.hid oN
  have TE := Lib.hid tE
  have TW := Lib.hid tW
  have TN := Lib.hid tN
  have EW := Lib.hid eW
  have EN := Lib.hid eN
  have LE := Lib.hid lE
  have LW := Lib.hid lW
  have LN := Lib.hid lN
  have BW0 := Lib.hid hW0
  have hnm := ents_names eE
  have hul : ue.length = ts.length := eE.1
  clear hJ hY h0 oE oW oN tE tW tN eE eW eN lE lW lN hW0
  refine callsIn_of_wp Tryz.func118 rfl trivial ?_ rfl
  simp only [Tryz.ntmps118, List.size_toArray, List.length_cons, List.length_nil, Nat.reduceAdd, Nat.reduceSub, Array.replicate_succ, Array.replicate_zero, List.push_toArray, List.append_toArray, List.nil_append, List.cons_append]
  gi_wp2_with (refine ⟨trivial, ?_⟩; gi_at_call 110; refine (callsIn_wide.2 (namesInOrder_any be ne De ue _ OE.out TE.out hne)).mono ?_; rintro e w2 ⟨⟨v, rfl, hrow⟩, hlen, hb2⟩; rw [hnm] at hrow; obtain ⟨a1, cap1, rfl, h1, _⟩ := owned_strs hrow (by rw [namesOf_len]; exact hul); have HR := Lib.hid hrow; have B2 := Lib.hid hb2; clear hrow h1 hb2)
  obtain ⟨ns, hns⟩ : ∃ ns, namesOf ts = ns := ⟨_, rfl⟩
  have hnl : ts.length = ns.length := by rw [← hns, namesOf_len]
  have NS : Hid (∀ k, k < ns.length → (sx ns k).size ≤ 1048576) := fun k hk => by
    rw [← hns, namesOf_at (by omega)]
    have h := (LE.out k (by omega)).1
    omega
  rw [hns] at HR ⊢
  have bw2 := B2.out.size
  replace OW := Lib.hid (ownsMap_below OW.out B2.out)
  replace ON := Lib.hid (ownsMap_below ON.out B2.out)
  have CV := Lib.hid (cell_later B2.out cV)
  have CN := Lib.hid (cell_later B2.out cN)
  have J2 : Hid (J [] w2) := HJ.out _ _ _ none H0.out (grown_below B2.out) (fun r e => by cases e)
  have BW2 : Hid (Below W0.heap.size W0 w2) := BW0.out.trans (B2.out.mono BW0.out.size)
  clear hnm cE cV cN OE TE LE H0
  gi_loopw [15] (fun i wr => ∃ (k : Nat) (pre : List (Ch × PlC)), k ≤ ns.length ∧ i = .int .i64 k ∧ pre.map (·.1) = ofN fs gs (ns.take k) ∧ J pre wr ∧ Only w2 wr (ChgC lo B)) (fun i _ => ns.length - (intOf i).toNat)
  case atStart => exact ⟨0, [], Nat.zero_le _, rfl, rfl, J2.out, Only.refl _ _⟩
  case round =>
    obtain ⟨k, pre, hk, rfl, hpre, hjs, honly⟩ := hrel
    have hpl : pre.length ≤ k := by
      have h1 := ofN_le fs gs (ns.take k)
      rw [← hpre, List.length_map, List.length_take] at h1
      omega
    by_cases hlt : k < ns.length
    · have hnz := NS.out k hlt
      obtain ⟨rb, roff, rfl, hrlt, hrc⟩ := strs_of (ownsRow_only HR.out honly (fun g c hg => chgC_cells (by omega) (by decide) c _)) (by omega) k hlt
      have htu := honly.turnedC
      have cv := htu.cell CV.out (show ¬ (V = B ∨ lo ≤ V) by omega)
      have cn := htu.cell CN.out (show ¬ (N = B ∨ lo ≤ N) by omega)
      have ow := ownsMap_only OW.out honly (fun es c => chgC_map hbw es c)
      have on := ownsMap_only ON.out honly (fun es c => chgC_map hbn es c)
      have low : ∀ x, x < W0.heap.size → ¬ (x = B ∨ lo ≤ x) := fun x hx h => by omega
      obtain ⟨xa, xc, ya, yc, hl1, hx1, hy1⟩ := look_at ow TW.out EW.out hnz
      obtain ⟨za, zc, va, vc, hl2, hz1, hv1⟩ := look_at (on.alloc (.cells #[.string (sideOf fs (sx ns k)).2.1, .int .i64 (sideOf fs (sx ns k)).2.2.1, .slice xa (sideOf fs (sx ns k)).2.2.2.1.length xc, .slice ya (sideOf fs (sx ns k)).2.2.2.2.length yc] 34)) TN.out EN.out hnz
      have s1 := sideOf_len (by omega) LW.out (sx ns k)
      have s2 := sideOf_len (by omega) LN.out (sx ns k)
      have HT : Hid (∀ c, chB fs gs (sx ns k) = c → (turnsC c = true → ofN fs gs (ns.take (k + 1)) = ofN fs gs (ns.take k) ++ [c]) ∧ (turnsC c = false → ofN fs gs (ns.take (k + 1)) = ofN fs gs (ns.take k))) := fun c hc => by
        subst hc
        exact ⟨ofN_more hlt, ofN_none hlt⟩
      have hcb : chB fs gs (sx ns k) = (sx ns k, (sideOf fs (sx ns k)).1, (sideOf fs (sx ns k)).2, (sideOf gs (sx ns k)).1, (sideOf gs (sx ns k)).2) := rfl
      replace HT := Lib.hid (HT.out _ hcb)
      replace hx1 := hx1.far BW2.out htu low
      replace hy1 := hy1.far BW2.out htu low
      replace hz1 := hz1.far BW2.out htu low
      replace hv1 := hv1.far BW2.out htu low
      have cn2 := cell_later ((Below.refl wr.heap.size wr).alloc (Nat.le_refl _) (.cells #[.string (sideOf fs (sx ns k)).2.1, .int .i64 (sideOf fs (sx ns k)).2.2.1, .slice xa (sideOf fs (sx ns k)).2.2.2.1.length xc, .slice ya (sideOf fs (sx ns k)).2.2.2.2.length yc] 34)) cn
      generalize sideOf fs (sx ns k) = sd1 at *
      generalize sideOf gs (sx ns k) = sd2 at *
      obtain ⟨h, f⟩ := sd1
      obtain ⟨s, g⟩ := sd2
      generalize sx ns k = i at *
      simp only at hl1 hl2 cn2 hx1 hy1 hz1 hv1 s1 s2
      have KW : Hid (∀ u, Below wr.heap.size wr u → Calls Tryz.prog 47 #[.agg #[.string f.1, .int .i64 f.2.1, .slice xa f.2.2.1.length xc, .slice ya f.2.2.2.length yc]] u fun e w' => ∃ v, e = .returned v ∧ FeatAns u f.1 f.2.1 f.2.2.1 f.2.2.2 v w') := fun u hu => featCopy_any _ _ _ _ _ _ _ _ _ (hx1.below hu) (hy1.below hu) (by have := s1.2.1; omega) (by have := s1.2.2.1; omega)
      have KN : Hid (∀ u, Below wr.heap.size wr u → Calls Tryz.prog 47 #[.agg #[.string g.1, .int .i64 g.2.1, .slice za g.2.2.1.length zc, .slice va g.2.2.2.length vc]] u fun e w' => ∃ v, e = .returned v ∧ FeatAns u g.1 g.2.1 g.2.2.1 g.2.2.2 v w') := fun u hu => featCopy_any _ _ _ _ _ _ _ _ _ (hz1.below hu) (hv1.below hu) (by have := s2.2.1; omega) (by have := s2.2.2.1; omega)
      have HJS := Lib.hid hjs
      have HON := Lib.hid honly
      have HPRE := Lib.hid hpre
      have M1 : Hid (f.2.2.1.length ≤ 1048576 ∧ f.2.2.2.length ≤ 1048576 ∧ g.2.2.1.length ≤ 1048576 ∧ g.2.2.2.length ≤ 1048576) := ⟨by have := s1.2.1; omega, by have := s1.2.2.1; omega, by have := s2.2.1; omega, by have := s2.2.2.1; omega⟩
      clear hx1 hy1 hz1 hv1 s1 s2 hcb low htu ow on hjs honly hpre NS hnz
      refine wpIn_wide.2 ?_
      go_upto_region 5 with (fail)
      obtain ⟨wo, hwo⟩ : ∃ wo, wo = (wr.alloc (.cells #[.string f.1, .int .i64 f.2.1, .slice xa f.2.2.1.length xc, .slice ya f.2.2.2.length yc] 34)).alloc (.cells #[.string g.1, .int .i64 g.2.1, .slice za g.2.2.1.length zc, .slice va g.2.2.2.length vc] 34) := ⟨_, rfl⟩
      have BO : Hid (Below wr.heap.size wr wo) := by rw [hwo]; exact ((Below.refl _ _).alloc (Nat.le_refl _) _).alloc (by simp) _
      have zo : Hid (wo.heap.size = wr.heap.size + 1 + 1) := by show _ = _; rw [hwo]; simp
      have SOF : Hid (∀ wy, Below wo.heap.size wo wy → wy.cell? ⟨wr.heap.size, 0, none⟩ = some (.string f.1) ∧ wy.cell? ⟨wr.heap.size, 1, none⟩ = some (.int .i64 f.2.1) ∧ wy.cell? ⟨wr.heap.size, 2, none⟩ = some (.slice xa f.2.2.1.length xc) ∧ wy.cell? ⟨wr.heap.size, 3, none⟩ = some (.slice ya f.2.2.2.length yc) ∧ wy.cell? ⟨wr.heap.size + 1, 0, none⟩ = some (.string g.1) ∧ wy.cell? ⟨wr.heap.size + 1, 1, none⟩ = some (.int .i64 g.2.1) ∧ wy.cell? ⟨wr.heap.size + 1, 2, none⟩ = some (.slice za g.2.2.1.length zc) ∧ wy.cell? ⟨wr.heap.size + 1, 3, none⟩ = some (.slice va g.2.2.2.length vc) ∧ Below wo.heap.size wo wy) := by
        intro wy hb
        refine ⟨?_, ?_, ?_, ?_, ?_, ?_, ?_, ?_, hb⟩
        all_goals refine cell_later hb ?_
        all_goals (rw [hwo]; simp [go_sem])
      rw [← hwo]
      have m1 : ¬ wr.heap.size = wo.heap.size := by have := zo.out; omega
      have m2 : ¬ wr.heap.size + 1 = wo.heap.size := by have := zo.out; omega
      clear hwo cv cn cn2 hl1 hl2 hrc
      have hQA : ∀ o, Below wo.heap.size wo ((wo.alloc o).drew) := fun o => ((Below.refl _ _).alloc (Nat.le_refl _) o).drew
      have hQ0 : Below wo.heap.size wo wo.drew := (Below.refl _ _).drew
      go_cut [11] (fun p wx => ∃ c xa2 xc2 ya2 yc2 za2 zc2 va2 vc2, p = .pointer (some ⟨c, 0, none⟩) ∧ BoxCh wr wx c i h f s g xa2 xc2 ya2 yc2 za2 zc2 va2 vc2)
      case first =>
        go_region_held3 (fun wy => wy.cell? ⟨wr.heap.size, 0, none⟩ = some (.string f.1) ∧ wy.cell? ⟨wr.heap.size, 1, none⟩ = some (.int .i64 f.2.1) ∧ wy.cell? ⟨wr.heap.size, 2, none⟩ = some (.slice xa f.2.2.1.length xc) ∧ wy.cell? ⟨wr.heap.size, 3, none⟩ = some (.slice ya f.2.2.2.length yc) ∧ wy.cell? ⟨wr.heap.size + 1, 0, none⟩ = some (.string g.1) ∧ wy.cell? ⟨wr.heap.size + 1, 1, none⟩ = some (.int .i64 g.2.1) ∧ wy.cell? ⟨wr.heap.size + 1, 2, none⟩ = some (.slice za g.2.2.1.length zc) ∧ wy.cell? ⟨wr.heap.size + 1, 3, none⟩ = some (.slice va g.2.2.2.length vc) ∧ Below wo.heap.size wo wy)
          (first
            | with_reducible assumption
            | with_reducible exact SOF.out _ hQ0
            | with_reducible exact SOF.out _ (hQA _)
            | with_reducible exact SOF.out _ hQN
            | with_reducible exact SOF.out _ hQW
            | with_reducible exact SOF.out _ (hQN.alloc hQN.size _)
            | with_reducible exact SOF.out _ (hQW.alloc hQW.size _)
            | with_reducible exact SOF.out _ (below_set11 (hQN.alloc hQN.size _) hQN.size)
            | with_reducible exact SOF.out _ (below_set11 hQN hQW.size)
            | with_reducible exact SOF.out _ (below_set11 hQN (Nat.le_refl _))
            | fail)
          (first
            | (go_at_call 47
               have hP : Below wo.heap.size wo _ := (by go_split_ands; with_reducible assumption)
               with_reducible refine (KW.out _ (BO.out.trans (hP.mono BO.out.size))).mono ?_
               rintro e wW ⟨_, rfl, xa2, xc2, ya2, yc2, rfl, p1, p2, p3, p4, p5, p6, p7, hbW⟩
               have hQW := hP.trans (hbW.mono hP.size)
               clear hP
               try (with_reducible have tW := (zeroC_drew _).later hbW))
            | (go_at_call 47
               have hP : Below wo.heap.size wo _ := (by go_split_ands; with_reducible assumption)
               with_reducible refine (KN.out _ (BO.out.trans (hP.mono BO.out.size))).mono ?_
               rintro e wN ⟨_, rfl, za2, zc2, va2, vc2, rfl, q1, q2, q3, q4, q5, q6, q7, hbN⟩
               have hQN := hP.trans (hbN.mono hP.size)
               clear hP
               try (first | (with_reducible have tN := tW.later hbN) | (with_reducible have tN := (zeroC_new _).later hbN) | (with_reducible have tN := (zeroC_drew _).later hbN))
               try (obtain ⟨⟨uk0, uk1, uk2, uk3, uk4, uk5, uk6, uk7, uk8, uk9, uk10⟩, ul0, ul1, ul2, ul3, ul4, ul5, ul6, ul7, ul8, ul9, ul10⟩ := id tN)))
        all_goals
          have hWN : Below wW.heap.size wW wN := (by first | exact hbN | exact ((Below.refl _ _).alloc (Nat.le_refl _) _).trans (hbN.mono (by simp)))
          have hWR : Below wr.heap.size wr wW := BO.out.trans (hQW.mono BO.out.size)
          have hNR : Below wr.heap.size wr wN := BO.out.trans (hQN.mono BO.out.size)
          have zd : ∀ x : World, x.drew.heap.size = x.heap.size := fun _ => rfl
          have P3 : Fresh wr wW xa2 := fresh_lo p3 (by have h1 := BO.out.size; simp only [zd, World.size_alloc]; omega)
          have P6 : Fresh wr wW ya2 := fresh_lo p6 (by have h1 := BO.out.size; simp only [zd, World.size_alloc]; omega)
          have Q3 : Fresh wW wN za2 := fresh_lo q3 (by first | exact Nat.le_refl _ | (simp only [World.size_alloc]; omega))
          have Q6 : Fresh wW wN va2 := fresh_lo q6 (by first | exact Nat.le_refl _ | (simp only [World.size_alloc]; omega))
          have G := gives_two i h s xc2 yc2 zc2 vc2 p1 p2 P3 p4 p5 P6 p7 q1 q2 Q3 q4 q5 Q6 q7 hWR.size hWN
          have hs2 := hbW.size
          have hs3 := hbN.size
          simp only [zd, World.size_alloc] at hs2 hs3
          go_wp2_with fail
          go_meet
          first
            | with_reducible exact ⟨_, xa2, xc2, ya2, yc2, za2, zc2, va2, vc2, rfl, cutC_late G hNR⟩
            | (have N1 : blk xa2 ≠ some wW.heap.size := (fun e => by have h1 := (p3 _ e).2; omega)
               have N2 : blk ya2 ≠ some wW.heap.size := (fun e => by have h1 := (p6 _ e).2; omega)
               have N3 : blk za2 ≠ some wW.heap.size := (fun e => by have h1 := (q3 _ e).1; simp only [World.size_alloc] at h1; omega)
               have N4 : blk va2 ≠ some wW.heap.size := (fun e => by have h1 := (q6 _ e).1; simp only [World.size_alloc] at h1; omega)
               have NC : wr.heap.size ≤ wW.heap.size := by have h1 := BO.out.size; have h2 := hWR.size; omega
               with_reducible exact ⟨_, xa2, xc2, ya2, yc2, za2, zc2, va2, vc2, rfl, cutC_set G hNR NC tN.some N1 N2 N3 N4⟩)
            | (have N1 : blk xa2 ≠ some wo.heap.size := (fun e => by have h1 := (p3 _ e).1; simp only [zd, World.size_alloc] at h1; omega)
               have N2 : blk ya2 ≠ some wo.heap.size := (fun e => by have h1 := (p6 _ e).1; simp only [zd, World.size_alloc] at h1; omega)
               have N3 : blk za2 ≠ some wo.heap.size := (fun e => by have h1 := (q3 _ e).1; omega)
               have N4 : blk va2 ≠ some wo.heap.size := (fun e => by have h1 := (q6 _ e).1; omega)
               have NC : wr.heap.size ≤ wo.heap.size := by have h1 := BO.out.size; have h2 := hWR.size; omega
               with_reducible exact ⟨_, xa2, xc2, ya2, yc2, za2, zc2, va2, vc2, rfl, cutC_set G hNR NC tN.some N1 N2 N3 N4⟩)
            | fail
      case rest =>
        obtain ⟨c, xa2, xc2, ya2, yc2, za2, zc2, va2, vc2, rfl, ⟨k0, k1, k2, k3, k4, k5, k6, k7, k8, k9, k10⟩, hG, hbc⟩ := hcut
        have GC := Lib.hid hG
        have BC := Lib.hid hbc
        have hPP := hG.1
        have e0 : PtsAt wc xa2 f.2.2.1 := (hPP 0 (by omega)).1
        have e1 : TagsAt wc ya2 f.2.2.2 := (hPP 1 (by omega)).1
        have e2 : PtsAt wc za2 g.2.2.1 := (hPP 2 (by omega)).1
        have e3 : TagsAt wc va2 g.2.2.2 := (hPP 3 (by omega)).1
        obtain ⟨M1', M2', M3', M4'⟩ := M1.out
        have TS := Lib.hid (turnsSomething_any i h f s g xa2 xc2 ya2 yc2 za2 zc2 va2 vc2 wc e0 e1 e2 e3 M1' M2' M3' M4')
        clear hG hbc hPP e0 e1 e2 e3
        go_upto_region 6 with (fail)
        refine (wpIn_wide (n := n)).1 ?_
        cases htc : turns h f s g with
        | true =>
          have HTC : Hid (turnsC (i, h, f, s, g) = true) := htc
          rw [htc] at TS
          clear htc
          gi_wp2_with (refine ⟨trivial, ?_⟩; gi_at_call 119; refine (callsIn_wide.2 TS.out).mono ?_; rintro e w3 ⟨rfl, hb3⟩; replace k0 := cell_later hb3 k0; replace k1 := cell_later hb3 k1; replace k2 := cell_later hb3 k2; replace k3 := cell_later hb3 k3; replace k4 := cell_later hb3 k4; replace k5 := cell_later hb3 k5; replace k6 := cell_later hb3 k6; replace k7 := cell_later hb3 k7; replace k8 := cell_later hb3 k8; replace k9 := cell_later hb3 k9; replace k10 := cell_later hb3 k10; have B3 : Hid (Below wr.heap.size wr w3) := BC.out.trans (hb3.mono BC.out.size); have G3 := Lib.hid (GC.out.below hb3); clear hb3; obtain ⟨fn, tmps, assign, body, hy, hR⟩ := HY.out pre ((i, h, f, s, g), plC xa2 xc2 ya2 yc2 za2 zc2 va2 vc2) wr w3 HJS.out B3.out G3.out (by omega); dsimp only [chV, plC] at hy)
          refine hR.mono ?_
          rintro e W3 ⟨rfl, hJ3, hO3⟩
          have O3 : Hid (Only w2 W3 (ChgC lo B)) := HON.out.trans ((Only.of_below B3.out).trans hO3)
          have J3 := Lib.hid hJ3
          clear hJ3 hO3 hR hy
          gi_wp2
          go_wp2
          go_roundw
          case rel => exact ⟨k + 1, pre ++ [((i, h, f, s, g), plC xa2 xc2 ya2 yc2 za2 zc2 va2 vc2)], by omega, by go_num, by rw [List.map_append, HPRE.out, HT.out.1 HTC.out]; rfl, J3.out, O3.out⟩
          case measure => simp [intOf]; omega
        | false =>
          have HTC : Hid (turnsC (i, h, f, s, g) = false) := htc
          rw [htc] at TS
          clear htc
          gi_wp2_with (refine ⟨trivial, ?_⟩; gi_at_call 119; refine (callsIn_wide.2 TS.out).mono ?_; rintro e w3 ⟨rfl, hb3⟩; have B3 : Hid (Below wr.heap.size wr w3) := BC.out.trans (hb3.mono BC.out.size); clear hb3)
          have J3 : Hid (J pre w3) := HJ.out _ _ _ none HJS.out (grown_below B3.out) (fun r e => by cases e)
          have O3 : Hid (Only w2 w3 (ChgC lo B)) := HON.out.trans (Only.of_below B3.out)
          clear k0 k1 k2 k3 k4 k5 k6 k7 k8 k9 k10
          refine ⟨fun _ h => (by cases h), ?_⟩
          gi_wp2
          go_wp2
          go_roundw
          case rel => exact ⟨k + 1, pre, by omega, by go_num, by rw [HPRE.out, HT.out.2 HTC.out], J3.out, O3.out⟩
          case measure => simp [intOf]; omega
    · obtain rfl : k = ns.length := by omega
      gi_wp2
      go_end0
      exact ⟨⟨_, rfl⟩, pre, by rw [hpre, List.take_length, hns], hjs⟩
end Go.Proofs.YtccgbengfmlgbaaGreat

namespace Go.Proofs.YtccgbengfmlgbaaGreat
set_option linter.unusedVariables false
open Go.ChangeShapes Go.WideShapes Go.ChangeAt Go.RowKit

/-- what is turned from one map to another one; nothing, if one of them is not ok -/
def ofR (fs gs : List Ft) : List Ch := if sheetOk fs && sheetOk gs then ofL fs gs else []

theorem gotC_lo {lo lo' hi : Nat} {w : World} {a : Option Addr} {ds : List Ch} (h : GotC lo hi w a ds) (hl : lo' ≤ lo) : GotC lo' hi w a ds := by
  refine ⟨h.1, fun i hi' => ?_⟩
  obtain ⟨b, off, pa, pc, ta, tc, qa, qc, ua, uc, e, h1, h2, x, r1, r2, r3, r4⟩ := h.2 i hi'
  have k : ∀ {n : Nat} {q : Option Addr}, (n = 0 ∨ ∀ x, blk q = some x → lo ≤ x ∧ x < hi) → (n = 0 ∨ ∀ x, blk q = some x → lo' ≤ x ∧ x < hi) := fun r => r.imp id fun q x hx => ⟨Nat.le_trans hl (q x hx).1, (q x hx).2⟩
  exact ⟨b, off, pa, pc, ta, tc, qa, qc, ua, uc, e, Nat.le_trans hl h1, h2, x, k r1, k r2, k r3, k r4⟩

theorem sheet_few {fs : List Ft} (h : sheetOk fs = true) : fs.length ≤ 8 := by
  unfold sheetOk at h
  simp only [Bool.and_eq_true, decide_eq_true_eq] at h
  exact h.2

set_option maxRecDepth 100000 in
set_option maxHeartbeats 2000000 in
theorem specDiffOf_any (a : Option Addr) (cap : Nat) (fs : List Ft) (a' : Option Addr) (cap' : Nat) (gs : List Ft) (w : World) (hp : FeatsAt w a fs) (hq : FeatsAt w a' gs) (hl : fs.length ≤ 1048576) (hl' : gs.length ≤ 1048576) (hL : FeatsLen fs 1048576) (hL' : FeatsLen gs 1048576) :
    Calls Tryz.prog 27 #[.slice a fs.length cap, .slice a' gs.length cap'] w fun e w' => (∃ a2 c2, e = .returned (.slice a2 (ofR fs gs).length c2) ∧ GotC w.heap.size w'.heap.size w' a2 (ofR fs gs)) ∧ Below w.heap.size w w' := by
  have HP := Lib.hid hp
  have HQ := Lib.hid hq
  have HL := Lib.hid hL
  have HL' := Lib.hid hL'
  clear hp hq hL hL'
  cases h1 : sheetOk fs
  · have HE : Hid (ofR fs gs = []) := by show _ = _; unfold ofR; rw [h1]; rfl
    have H1 := Lib.hid h1
    clear h1
    go_enter Tryz.func27, Tryz.ntmps27
    go_wp2_with fail
    refine (specSheetOk_any _ _ fs _ HP.out hl HL.out).mono ?_
    rintro e w1 ⟨rfl, hb1⟩
    rw [H1.out]
    have B1 := Lib.hid hb1
    clear hb1
    go_wp2
    go_ret
    rw [HE.out]
    exact ⟨⟨_, _, rfl, gotC_nil _ _ _ _⟩, B1.out.alloc B1.out.size _⟩
  · cases h2 : sheetOk gs
    · have HE : Hid (ofR fs gs = []) := by show _ = _; unfold ofR; rw [h1, h2]; rfl
      have H1 := Lib.hid h1
      have H2 := Lib.hid h2
      clear h1 h2
      go_enter Tryz.func27, Tryz.ntmps27
      go_wp2_with fail
      refine (specSheetOk_any _ _ fs _ HP.out hl HL.out).mono ?_
      rintro e w1 ⟨rfl, hb1⟩
      rw [H1.out]
      go_wp2_with fail
      refine (specSheetOk_any _ _ gs _ (HQ.out.below hb1) hl' HL'.out).mono ?_
      rintro e w2 ⟨rfl, hb2⟩
      rw [H2.out]
      have B1 : Hid (Below w.heap.size w w2) := hb1.trans (hb2.mono hb1.size)
      clear hb1 hb2
      go_wp2
      go_ret
      rw [HE.out]
      exact ⟨⟨_, _, rfl, gotC_nil _ _ _ _⟩, B1.out.alloc B1.out.size _⟩
    · have HE : Hid (ofR fs gs = ofL fs gs) := by show _ = _; unfold ofR; rw [h1, h2]; rfl
      have H1 := Lib.hid h1
      have H2 := Lib.hid h2
      have l1 := sheet_few h1
      have l2 := sheet_few h2
      have P1 := Lib.hid (fun i (hi : i < fs.length) => sheet_pos h1 hi)
      have P2 := Lib.hid (fun i (hi : i < gs.length) => sheet_pos h2 hi)
      clear h1 h2
      go_enter Tryz.func27, Tryz.ntmps27
      go_wp2_with fail
      refine (specSheetOk_any _ _ fs _ HP.out hl HL.out).mono ?_
      rintro e w1 ⟨rfl, hb1⟩
      rw [H1.out]
      go_wp2_with fail
      refine (specSheetOk_any _ _ gs _ (HQ.out.below hb1) hl' HL'.out).mono ?_
      rintro e w2 ⟨rfl, hb2⟩
      rw [H2.out]
      have B1 : Hid (Below w.heap.size w w2) := hb1.trans (hb2.mono hb1.size)
      clear hb1 hb2
      go_wp2_with fail
      refine (l4Of_any _ _ fs _ _ gs _ (HP.out.below B1.out) (HQ.out.below B1.out) (by omega) (by omega) HL.out HL'.out P1.out P2.out).mono ?_
      rintro e w3 ⟨⟨a2, c2, rfl, hg⟩, hb3⟩
      have B3 : Hid (Below w.heap.size w w3) := B1.out.trans (hb3.mono B1.out.size)
      have G3 := Lib.hid hg
      have z2 := B1.out.size
      clear hb3 hg
      go_wp2
      go_ret
      rw [HE.out]
      refine ⟨⟨a2, c2, rfl, ?_⟩, B3.out⟩
      exact gotC_lo G3.out z2
end Go.Proofs.YtccgbengfmlgbaaGreat

namespace Go.Proofs.YtccgbengfmlgbaaGreat
set_option linter.unusedVariables false
open Go.ChangeShapes Go.WideShapes Go.ChangeAt Go.RowKit Go.Deep Go.Shelf Go.Maps

attribute [local go_sem] Oper.semAt_some

/-- an append inside a fence, and where the row then lies -/
theorem wpListIn_append_at {F : Fence} {n : Nat} {P : Program} (w : World) {ops : Array Oper} {rest : List Oper} {o : Oper} {a : Act} {Q : Exit → Act → World → Prop}
    (hg : o.guard = none) (s x : Operand) (t : TypeId) (hop : o.op = Op.call { callee := Callee.builtin Builtin.append, args := #[s, x], argTypes := #[t, t] })
    (base : Nat) (e : TypeId) (i : TypeInfo) (z : Value) (size bytes : Nat) (ht : P.underlying t = some (.slice e)) (hi : P.info? e = some i) (hz : i.zero = some z)
    (hsize : i.size = size) (hby : i.bytes = bytes) (hzs : z.cells.size = size) (hsz : 0 < size)
    (v : Value) (k : Nat) (xs : List Value) (hs : a.eval s = v) (hown : w.ownsRow base e size v k xs) (ad : Addr) (m c : Nat) (news : List Value) (hx : a.eval x = .slice (some ad) m c) (hl : news.length = m * size)
    (hnews : ∀ j u, news[j]? = some u → w.cell? (ad.add j) = some u) (h1 : ∀ u ∈ news, u.oneCell' = true) (hm : 0 < m) (h63 : k + m ≤ maxLen) (hbytes : (k + m) * bytes ≤ 140737488355328) (hbase : base ≤ w.heap.size) (H : Nat) (hH : w.heap.size = H)
    (hK : ∀ g cap w', w'.ownsRow base e size (.slice (some ⟨g, 0, none⟩) (k + m) cap) (k + m) (xs ++ news) → w.grownBy w' v.ownBlock → (v.ownBlock = some g ∨ g = H) → g < w'.heap.size → wpListIn F n P ops Q rest (a.put o.dst (.slice (some ⟨g, 0, none⟩) (k + m) cap)) w') :
    wpListIn F n P ops Q (o :: rest) a w := by
  refine wpListIn_plain hg fun K hK' => ?_
  obtain ⟨g, cap, w', hrun, r1, r2, r3, r4⟩ := run_append_lies (P := P) w t o.type base e i z size bytes ht hi hz hsize hby hzs hsz v k xs hown ad m c news hl hnews h1 hm h63 hbytes hbase H hH
  unfold Oper.wpIn
  refine ⟨?_, ?_⟩
  · simp [Oper.about, hop, resolve, Target.leads, Sem.run_pure]
  · rw [Oper.semAt_plain F _ _ (by rw [hop]; intro c hc'; cases hc')]
    simp [execOp, hop, resolve, invoke, builtin, hs, hx, hrun, Result.andThen]
    exact hK' _ _ (hK g cap w' r1 r2 r3 r4)

/-- what may grow beside: a block that is no cells -/
def NoCells (A : World) (row : Option Nat) : Prop := ∀ r, row = some r → ∃ o : Obj, A.heap[r]? = some o ∧ o.isCells = false

theorem cells_nc {A C : World} {row : Option Nat} {B : Nat} {cs : Array Value} {t : TypeId} {f : Nat × Nat} (h : A.heap[B]? = some (.cells cs t f)) (hg : A.grownBy C row) (hr : NoCells A row) : C.heap[B]? = some (.cells cs t f) := by
  refine (hg.block B (Array.getElem?_eq_some_iff.1 h).1 fun e => ?_).trans h
  obtain ⟨o, h1, h2⟩ := hr B e.symm
  rw [h] at h1
  cases h1
  cases h2
theorem PtsAt.nc {A C : World} {row : Option Nat} {a : Option Addr} {ps : List (Int × Int)} (h : PtsAt A a ps) (hg : A.grownBy C row) (hr : NoCells A row) : PtsAt C a ps := by
  intro i hi
  obtain ⟨b, off, rfl, hlt, h1, h2⟩ := h i hi
  exact ⟨b, off, rfl, Nat.lt_of_lt_of_le hlt hg.size, cell_kept h1 hg hr, cell_kept h2 hg hr⟩
theorem TagsAt.nc {A C : World} {row : Option Nat} {a : Option Addr} {ts : List Tg} (h : TagsAt A a ts) (hg : A.grownBy C row) (hr : NoCells A row) : TagsAt C a ts := by
  intro i hi
  obtain ⟨b, off, rfl, hlt, h1, h2⟩ := h i hi
  exact ⟨b, off, rfl, Nat.lt_of_lt_of_le hlt hg.size, cell_kept h1 hg hr, cell_kept h2 hg hr⟩
theorem Soft.ncP {A C : World} {row : Option Nat} {a : Option Addr} {ps : List (Int × Int)} (hs : Soft A a ps.length) (h : PtsAt A a ps) (hg : A.grownBy C row) (hr : NoCells A row) : Soft C a ps.length := by
  intro i hi b off e
  obtain ⟨b', off', e', hlt, h1, h2⟩ := h i hi
  obtain ⟨rfl, rfl⟩ : b = b' ∧ off = off' := by rw [e] at e'; simpa using e'
  obtain ⟨s1, s2⟩ := hs i hi b off e
  exact ⟨(frozen_kept h1 hg hr).trans s1, (frozen_kept h2 hg hr).trans s2⟩
theorem Soft.ncT {A C : World} {row : Option Nat} {a : Option Addr} {ts : List Tg} (hs : Soft A a ts.length) (h : TagsAt A a ts) (hg : A.grownBy C row) (hr : NoCells A row) : Soft C a ts.length := by
  intro i hi b off e
  obtain ⟨b', off', e', hlt, h1, h2⟩ := h i hi
  obtain ⟨rfl, rfl⟩ : b = b' ∧ off = off' := by rw [e] at e'; simpa using e'
  obtain ⟨s1, s2⟩ := hs i hi b off e
  exact ⟨(frozen_kept h1 hg hr).trans s1, (frozen_kept h2 hg hr).trans s2⟩
theorem PartC.nc {A C : World} {row : Option Nat} {c : Ch} {p : PlC} (hg : A.grownBy C row) (hr : NoCells A row) : ∀ {r : Nat}, PartC A c p r → PartC C c p r
  | 0, h => ⟨h.1.nc hg hr, h.2.ncP h.1 hg hr⟩
  | 1, h => ⟨h.1.nc hg hr, h.2.ncT h.1 hg hr⟩
  | 2, h => ⟨h.1.nc hg hr, h.2.ncP h.1 hg hr⟩
  | _ + 3, h => ⟨h.1.nc hg hr, h.2.ncT h.1 hg hr⟩
theorem ownsRow_nc {A C : World} {row : Option Nat} {base : Nat} {t : TypeId} {size : Nat} {v : Value} {n : Nat} {xs : List Value} (h : A.ownsRow base t size v n xs) (hg : A.grownBy C row) (hr : NoCells A row) : C.ownsRow base t size v n xs := by
  refine ⟨h.1, h.2.imp id ?_⟩
  rintro ⟨g, cap, cur, h1, h2, h3, h4⟩
  exact ⟨g, cap, cur, h1, h2, cells_nc h3 hg hr, h4⟩
theorem BuiltC.nc {A C : World} {row : Option Nat} {lo : Nat} {v : Value} {k : Nat} {ds : List Ch} {ad : Nat → PlC} (h : BuiltC A lo v k ds ad) (hg : A.grownBy C row) (hr : NoCells A row) : BuiltC C lo v k ds ad :=
  ⟨ownsRow_nc h.row hg hr, fun i hi r hr' => PartC.nc hg hr (h.part i hi r hr'), fun i hi x hx => ⟨(h.rng i hi x hx).1, Nat.lt_of_lt_of_le (h.rng i hi x hx).2.1 hg.size, (h.rng i hi x hx).2.2⟩, h.two, h.far⟩

theorem cg_app {ds : List Ch} (c : Ch) {i : Nat} (h : i < ds.length) : cg (ds ++ [c]) i = cg ds i := by
  simp [cg, List.getD, h, Nat.lt_succ_of_lt h]
theorem cg_last (ds : List Ch) (c : Ch) : cg (ds ++ [c]) ds.length = c := by
  unfold cg
  simp
theorem flatC_app (ds : List Ch) (c : Ch) (ad : Nat → PlC) : ∀ k, k ≤ ds.length → flatC (ds ++ [c]) ad k = flatC ds ad k
  | 0, _ => rfl
  | k + 1, h => by rw [flatC_succ, flatC_succ, flatC_app ds c ad k (by omega), cg_app c (by omega)]
theorem builtC_app {w : World} {lo : Nat} {v : Value} {ds : List Ch} {ad : Nat → PlC} (h : BuiltC w lo v ds.length ds ad) (c : Ch) : BuiltC w lo v ds.length (ds ++ [c]) ad :=
  ⟨by rw [flatC_app _ _ _ _ (Nat.le_refl _)]; exact h.row, fun i hi r hr => by rw [cg_app c hi]; exact h.part i hi r hr, h.rng, h.two, h.far⟩

/-- one more change, appended: its parts lie from a block on behind which nothing of the list lies -/
theorem BuiltC.stepM {w3 wb wa : World} {lo m : Nat} {v : Value} {k : Nat} {ds : List Ch} {ad : Nat → PlC} {p : PlC} {gg cap' : Nat} (h : BuiltC w3 lo v k ds ad) (hvl : ∀ x, v.ownBlock = some x → x < m) (hil : ∀ i, i < k → ∀ x, inPartC (ad i) x → x < m) (hlo : lo ≤ m) (h3 : Below w3.heap.size w3 wb)
    (hp : ∀ r, r < 4 → PartC w3 (cg ds k) p r) (hpf : ∀ r, r < 4 → ∀ x, blk (p r).1 = some x → m ≤ x ∧ x < w3.heap.size) (hap : ∀ r s, r < 4 → s < 4 → r ≠ s → Apart (p r).1 (p s).1)
    (hrow : wa.ownsRow lo 102 11 (.slice (some ⟨gg, 0, none⟩) (k + 1) cap') (k + 1) (flatC ds ad k ++ cellsC (cg ds k) p)) (hg : wb.grownBy wa v.ownBlock) (hat : v.ownBlock = some gg ∨ w3.heap.size ≤ gg) :
    BuiltC wa lo (.slice (some ⟨gg, 0, none⟩) (k + 1) cap') (k + 1) ds (plSetC ad k p) := by
  have hB := h.below h3
  have ht' : Turned wb wa (fun x => v.ownBlock = some x) := Turned.of_grown hg fun x hx => hx
  have hwz := hg.size
  have h3z := h3.size
  have hfr : ∀ x, inPartC p x → m ≤ x ∧ x < w3.heap.size := fun x ⟨r, hr, hx⟩ => hpf r hr x hx
  have nv : ∀ x, inPartC p x → ¬ v.ownBlock = some x := fun x hx e => by have h1 := (hfr x hx).1; have h2 := hvl x e; omega
  have gne : ∀ x, x < w3.heap.size → ¬ v.ownBlock = some x → gg ≠ x := fun x hx hn e => by
    rcases hat with h1 | h1
    · exact hn (by rw [h1, e])
    · omega
  have own' : ∀ x, (Value.slice (some ⟨gg, 0, none⟩) (k + 1) cap').ownBlock = some x → gg = x := fun x hx => by simpa [Value.ownBlock] using hx
  refine ⟨?_, fun i hi r hr => ?_, fun i hi x hx => ?_, fun i hi => ?_, fun i j hij hj x hx hy => ?_⟩
  · rw [flatC_succ, flatC_set _ _ _ _ _ (Nat.le_refl _), plSetC_at]
    exact hrow
  · by_cases e : i = k
    · subst e
      rw [plSetC_at]
      exact PartC.turned ht' hr (PartC.below h3 hr (hp r hr)) fun x hx => nv x ⟨r, hr, hx⟩
    · rw [plSetC_lt (by omega)]
      exact PartC.turned ht' hr (hB.part i (by omega) r hr) fun x hx e => (h.rng i (by omega) x ⟨r, hr, hx⟩).2.2 e
  · by_cases e : i = k
    · subst e
      rw [plSetC_at] at hx
      obtain ⟨q1, q2⟩ := hfr x hx
      exact ⟨by omega, by omega, fun e => gne x q2 (nv x hx) (own' x e)⟩
    · rw [plSetC_lt (by omega)] at hx
      obtain ⟨q1, q2, q3⟩ := h.rng i (by omega) x hx
      exact ⟨q1, by omega, fun e => gne x (by omega) q3 (own' x e)⟩
  · by_cases e : i = k
    · subst e
      rw [plSetC_at]
      exact hap
    · rw [plSetC_lt (by omega)]
      exact h.two i (by omega)
  · rw [plSetC_lt (by omega)] at hx
    by_cases e : j = k
    · subst e
      rw [plSetC_at] at hy
      have h1 := (hfr x hy).1
      have h2 := hil i (by omega) x hx
      omega
    · rw [plSetC_lt (by omega)] at hy
      exact h.far i j hij (by omega) x hx hy

set_option maxRecDepth 100000 in
set_option maxHeartbeats 2000000 in
theorem featsByName_from (a : Option Addr) (cap : Nat) (fs : List Ft) (w0 w : World) (h0 : Below w0.heap.size w0 w) (hp : FeatsAt w0 a fs) (hl : fs.length ≤ 1048576) (ht : FeatsLen fs 1048576) :
    Calls Tryz.prog 59 #[.slice a fs.length cap] w fun e w' => e = .returned (.map (some w.heap.size)) ∧ (∃ es, Ents w0 es fs ∧ w'.ownsMap Tryz.prog 9 heldElem w.heap.size fs.length (mapF es)) ∧ Below w.heap.size w w' := by
  have each : ∀ i, i < fs.length → ∃ q : Option Addr × Nat × Option Addr × Nat, ∃ b off, a = some ⟨b, off, none⟩ ∧ b < w0.heap.size ∧
    w0.cell? ⟨b, off + i * 4, none⟩ = some (.string (fid fs i)) ∧ w0.cell? ⟨b, off + i * 4 + 1, none⟩ = some (.int .i64 (fkd fs i)) ∧
    w0.cell? ⟨b, off + i * 4 + 2, none⟩ = some (.slice q.1 (fps fs i).length q.2.1) ∧ w0.cell? ⟨b, off + i * 4 + 3, none⟩ = some (.slice q.2.2.1 (fts fs i).length q.2.2.2) ∧
    PtsAt w0 q.1 (fps fs i) ∧ TagsAt w0 q.2.2.1 (fts fs i) := by
    intro i hi
    obtain ⟨b, off, pa, pc, ta, tc, h1, h2, h3, h4, h5, h6, h7, h8⟩ := hp i hi
    exact ⟨(pa, pc, ta, tc), b, off, h1, h2, h3, h4, h5, h6, h7, h8⟩
  obtain ⟨q, hq⟩ := choose_lt each
  clear each hp
  have HP := Lib.hid hq
  have HL := Lib.hid ht
  clear hq ht
  generalize hes : (List.range fs.length).map (fun i => ((fid fs i, .agg #[.string (fid fs i), .int .i64 (fkd fs i), .slice (q i).1 (fps fs i).length (q i).2.1, .slice (q i).2.2.1 (fts fs i).length (q i).2.2.2]) : En)) = es
  have hel : es.length = fs.length := by rw [← hes]; simp
  have hek : ∀ i, i < fs.length → ek es i = fid fs i ∧ ev es i = .agg #[.string (fid fs i), .int .i64 (fkd fs i), .slice (q i).1 (fps fs i).length (q i).2.1, .slice (q i).2.2.1 (fts fs i).length (q i).2.2.2] := by
    intro i hi
    rw [← hes]
    simp [ek, ev, hi]
  have HE : Hid (Ents w0 es fs) := ⟨hel, fun i hi => ⟨(hek i hi).1, by
    obtain ⟨b, off, _, _, _, _, _, _, h7, h8⟩ := HP.out i hi
    exact ⟨_, _, _, _, (hek i hi).2, h7, h8⟩⟩⟩
  have HK := Lib.hid hek
  clear hek hes
  have hmm := @run_makeMap Tryz.prog
  go_enter Tryz.func59, Tryz.ntmps59
  go_wp2
  clear hmm
  go_loopw [5, 9] (fun _ i wr => ∃ k : Nat, k ≤ fs.length ∧ i = .int .i64 k ∧ wr.ownsMap Tryz.prog 9 heldElem w.heap.size k (mapF (es.take k)) ∧ Below w.heap.size w wr) (fun _ i _ => fs.length - (intOf i).toNat)
  case atStart => exact ⟨0, Nat.zero_le _, rfl, World.ownsMap_made _ _ _ _, (Below.refl _ _).alloc (Nat.le_refl _) _⟩
  case round =>
    obtain ⟨k, hk, rfl, hown, hbel⟩ := hrel
    have HB := Lib.hid hbel
    have hsz := hbel.size
    by_cases hlt : k < fs.length
    · obtain ⟨b, off, rfl, hb, hc1, hc2, hc3, hc4, _, _⟩ := HP.out k hlt
      have hbw := h0.trans (hbel.mono h0.size)
      replace hc1 := cell_later hbw hc1
      replace hc2 := cell_later hbw hc2
      replace hc3 := cell_later hbw hc3
      replace hc4 := cell_later hbw hc4
      replace hb := Nat.lt_of_lt_of_le hb hbw.size
      clear hbw
      clear hbel
      have hkey : keyOf Tryz.prog 9 (.string (fid fs k)) = some (keyL (fid fs k)) := Go.WideMaps.keyOf_string_mk Tryz.underlying9 (by have := (HL.out k hlt).1; unfold maxLen; omega)
      go_wp2_with (at_mapUpdate; refine wpList_mapUpdate_own _ rfl _ _ _ 92 rfl 9 34 keyT Tryz.underlying92 _ w.heap.size k _ rfl (hown.alloc _) (by unfold maxLen; omega) _ _ _ rfl rfl hkey (.held (.agg #[.string (fid fs k), .int .i64 (fkd fs k), .slice (q k).1 (fps fs k).length (q k).2.1, .slice (q k).2.2.1 (fts fs k).length (q k).2.2.2])) [] rfl ?_; intro w1 hown1 hgrow1)
      rw [← (HK.out k hlt).2, ← (HK.out k hlt).1, ← mapF_step (by omega)] at hown1
      have HO := Lib.hid hown1
      have HG := Lib.hid hgrow1
      clear hown1 hgrow1 hown
      go_roundw
      case rel => exact ⟨k + 1, by omega, by go_num, HO.out, (HB.out.alloc hsz _).grown HG.out (by simp; omega) (fun j hj => by cases hj; exact Nat.le_refl _)⟩
      case measure => simp [intOf]; omega
    · obtain rfl : k = fs.length := by omega
      have HO := Lib.hid hown
      clear hown hbel
      go_wp2
      go_ret
      exact ⟨rfl, ⟨es, HE.out, by have := HO.out; rwa [List.take_of_length_le (by omega)] at this⟩, HB.out⟩


/-- the loop of a function that gathers what an iterator over changes hands over: what it holds -/
def GathC (w wL : World) (Bd : Nat) (pre : List (Ch × PlC)) (W : World) : Prop :=
  ∃ v ad, Boxed W Bd 56 v ∧ BuiltC W wL.heap.size v pre.length (pre.map (·.1)) ad ∧ Below w.heap.size w W ∧ wL.heap.size ≤ W.heap.size

theorem gathC_own {w wL : World} {Bd : Nat} (hw : w.heap.size ≤ wL.heap.size) : OwnFrom wL.heap.size (GathC w wL Bd) := by
  rintro pre A C row ⟨v, ad, h1, h2, h3, h4⟩ hg hr
  have hr' : NoCells A row := fun r e => (hr r e).2
  exact ⟨v, ad, cells_nc h1 hg hr', h2.nc hg hr', h3.grown hg h3.size (fun j e => by have := (hr j e).1; omega), Nat.le_trans h4 hg.size⟩

/-- at a round's begin: the change in a box, its parts where they lie -/
def GathX (w wL : World) (Bd : Nat) (pre : List (Ch × PlC)) (x : Ch × PlC) (Bx : Nat) (W : World) : Prop :=
  ∃ v ad m, wL.heap.size ≤ m ∧ W.heap[Bx]? = some (.cells (cellsC x.1 x.2).toArray 102 (0, 0)) ∧ wL.heap.size ≤ Bx ∧ Boxed W Bd 56 v ∧ BuiltC W wL.heap.size v pre.length (pre.map (·.1)) ad ∧
    (∀ y, v.ownBlock = some y → y < m) ∧ (∀ i, i < pre.length → ∀ y, inPartC (ad i) y → y < m) ∧ (∀ r, r < 4 → PartC W x.1 x.2 r) ∧ (∀ r, r < 4 → ∀ y, blk (x.2 r).1 = some y → m ≤ y ∧ y < W.heap.size) ∧ (∀ r q, r < 4 → q < 4 → r ≠ q → Apart (x.2 r).1 (x.2 q).1) ∧
    Below w.heap.size w W ∧ wL.heap.size ≤ W.heap.size

theorem gathX_own {w wL : World} {Bd : Nat} (hw : w.heap.size ≤ wL.heap.size) (pre : List (Ch × PlC)) (x : Ch × PlC) (Bx : Nat) : OwnFrom wL.heap.size (fun (_ : Unit) => GathX w wL Bd pre x Bx) := by
  rintro _ A C row ⟨v, ad, m, h0, h1, h1b, h2, h3, h4, h5, h6, h7, h8, h9, h10⟩ hg hr
  have hr' : NoCells A row := fun r e => (hr r e).2
  exact ⟨v, ad, m, h0, cells_nc h1 hg hr', h1b, cells_nc h2 hg hr', h3.nc hg hr', h4, h5, fun r hr2 => PartC.nc hg hr' (h6 r hr2), fun r hr2 y hy => ⟨(h7 r hr2 y hy).1, Nat.lt_of_lt_of_le (h7 r hr2 y hy).2 hg.size⟩, h8, h9.grown hg h9.size (fun j e => by have := (hr j e).1; omega), Nat.le_trans h10 hg.size⟩

theorem gath_in {w wL : World} {Bd : Nat} {pre : List (Ch × PlC)} {x : Ch × PlC} {Wp W : World} (h : GathC w wL Bd pre Wp) (hb : Below Wp.heap.size Wp W) (hx : GivesC x Wp W) (t : TypeId) (ht : t = 102) :
    GathX w wL Bd pre x W.heap.size (W.alloc (.cells (cellsC x.1 x.2).toArray t)) := by
  subst ht
  obtain ⟨v, ad, h1, h2, h3, h4⟩ := h
  have ha : Below W.heap.size W (W.alloc (.cells (cellsC x.1 x.2).toArray 102)) := (Below.refl _ _).alloc (Nat.le_refl _) _
  have hb2 := hb.trans (ha.mono hb.size)
  have hlt : Bd < Wp.heap.size := (Array.getElem?_eq_some_iff.1 h1).1
  refine ⟨v, ad, Wp.heap.size, h4, World.alloc_heap_new W _, Nat.le_trans h4 hb.size, (hb2.block _ hlt).trans h1, h2.below hb2, fun y hy => (h2.row.lt y hy).2, fun i hi y hy => (h2.rng i hi y hy).2.1, fun r hr => PartC.below ha hr (hx.1 r hr), fun r hr y hy => ⟨(hx.2.1 r hr y hy).1, Nat.lt_of_lt_of_le (hx.2.1 r hr y hy).2 ha.size⟩, hx.2.2, h3.trans (hb2.mono h3.size), Nat.le_trans h4 hb2.size⟩

end Go.Proofs.YtccgbengfmlgbaaGreat

namespace Go.Proofs.YtccgbengfmlgbaaGreat
set_option linter.unusedVariables false
open Go.ChangeShapes Go.WideShapes Go.ChangeAt Go.RowKit

/-- a block of these cells, none frozen -/
def BK (w : World) (b : Nat) (cs : Array Value) (t : TypeId) : Prop := w.heap[b]? = some (.cells cs t (0, 0))

theorem BK.new (w : World) (cs : Array Value) (t : TypeId) : BK (w.alloc (.cells cs t)) w.heap.size cs t := heap_alloc_new w _
theorem BK.at (w : World) (cs : Array Value) (t : TypeId) {b : Nat} (h : w.heap.size = b) : BK (w.alloc (.cells cs t)) b cs t := by subst h; exact BK.new w cs t
theorem BK.lt {w : World} {b : Nat} {cs : Array Value} {t : TypeId} (h : BK w b cs t) : b < w.heap.size := (Array.getElem?_eq_some_iff.1 h).1
theorem BK.later {w w' : World} {b : Nat} {cs : Array Value} {t : TypeId} (h : BK w b cs t) (hb : Below w.heap.size w w') : BK w' b cs t := (hb.block _ h.lt).trans h
theorem BK.alloc {w : World} {b : Nat} {cs : Array Value} {t : TypeId} (h : BK w b cs t) (o : Obj) : BK (w.alloc o) b cs t := h.later ((Below.refl _ _).alloc (Nat.le_refl _) _)
theorem BK.drew {w : World} {b : Nat} {cs : Array Value} {t : TypeId} (h : BK w b cs t) : BK w.drew b cs t := h
theorem BK.cell {w : World} {b : Nat} {cs : Array Value} {t : TypeId} (h : BK w b cs t) (i : Nat) {v : Value} (hv : cs[i]? = some v) : w.cell? ⟨b, i, none⟩ = some v := by
  simp only [World.cell?, show w.heap[b]? = _ from h, Option.isSome_none, Bool.false_eq_true, if_false]
  exact hv
theorem BK.frozen {w : World} {b : Nat} {cs : Array Value} {t : TypeId} (h : BK w b cs t) (i : Nat) : w.frozen? ⟨b, i, none⟩ = false := by
  simp [World.frozen?, show w.heap[b]? = _ from h]
theorem BK.set {w : World} {b : Nat} {cs : Array Value} {t : TypeId} (h : BK w b cs t) (i : Nat) (v : Value) : BK (w.setCell ⟨b, i, none⟩ v) b (cs.setIfInBounds i v) t := by
  simp only [BK, World.setCell, Array.getElem?_modify, show w.heap[b]? = _ from h]
  simp [Option.map]
theorem BK.setOther {w : World} {b c : Nat} {cs : Array Value} {t : TypeId} (h : BK w b cs t) (i : Nat) (v : Value) (hne : c ≠ b) : BK (w.setCell ⟨c, i, none⟩ v) b cs t := by
  show (w.setCell ⟨c, i, none⟩ v).heap[b]? = _
  exact (Below.heap_setCell _ _ _ _ (fun e => hne e.symm)).trans h

end Go.Proofs.YtccgbengfmlgbaaGreat

namespace Go.Proofs.YtccgbengfmlgbaaGreat
set_option linter.unusedVariables false
open Go.ChangeShapes Go.WideShapes Go.ChangeAt Go.RowKit Go.Deep Go.Shelf Go.Maps

attribute [local go_sem] Oper.semAt_some

theorem putTo_lens {fs gs : List Ft} {m : Int} (h : FeatsLen fs m) (hg : FeatsLen gs m) : ∀ k, k ≤ gs.length → FeatsLen (putTo fs gs k) m
  | 0, _ => h
  | k + 1, hk => putL_lens (putTo_lens h hg k (by omega)) (hg k (by omega))

theorem BuiltC.setLow {w : World} {lo B : Nat} {u v : Value} {k : Nat} {ds : List Ch} {ad : Nat → PlC} (h : BuiltC w lo v k ds ad) (hB : B < lo) : BuiltC (w.setCell ⟨B, 0, none⟩ u) lo v k ds ad := by
  have ht : Turned w (w.setCell ⟨B, 0, none⟩ u) (fun x => x = B) := Turned.of_set _ _ _ rfl
  refine ⟨h.row.kept (grownBy_setCell' w B u) (.inr fun e => ?_), fun i hi r hr => PartC.turned ht hr (h.part i hi r hr) (fun x hx e => ?_), fun i hi x hx => ⟨(h.rng i hi x hx).1, Nat.lt_of_lt_of_le (h.rng i hi x hx).2.1 ht.size, (h.rng i hi x hx).2.2⟩, h.two, h.far⟩
  · have := (h.row.lt B e).1
    omega
  · have := (h.rng i hi x ⟨r, hr, hx⟩).1
    omega

theorem BuiltC.base {w : World} {lo lo' : Nat} {v : Value} {k : Nat} {ds : List Ch} {ad : Nat → PlC} (h : BuiltC w lo v k ds ad) (hl : lo' ≤ lo) : BuiltC w lo' v k ds ad :=
  ⟨ownsRow_base h.row hl, h.part, fun i hi x hx => ⟨Nat.le_trans hl (h.rng i hi x hx).1, (h.rng i hi x hx).2⟩, h.two, h.far⟩

set_option maxRecDepth 100000 in
set_option maxHeartbeats 8000000 in
theorem implDiffOf_any (a : Option Addr) (cap : Nat) (fs : List Ft) (a' : Option Addr) (cap' : Nat) (gs : List Ft) (w : World) (hp : FeatsAt w a fs) (hq : FeatsAt w a' gs) (hl : fs.length ≤ 1048576) (hl' : gs.length ≤ 1048576) (hL : FeatsLen fs 1048576) (hL' : FeatsLen gs 1048576) :
    Calls Tryz.prog 28 #[.slice a fs.length cap, .slice a' gs.length cap'] w fun e w' => (∃ v ad, e = .returned v ∧ BuiltC w' w.heap.size v (ofR fs gs).length (ofR fs gs) ad) ∧ Below w.heap.size w w' := by
  obtain ⟨i0, hi, hz0, hz1, hz2⟩ := info_parts infoChange
  have HI := Lib.hid hi
  have HZ0 := Lib.hid hz0
  have HZ1 := Lib.hid hz1
  have HZ2 := Lib.hid hz2
  have HP := Lib.hid hp
  have HQ := Lib.hid hq
  have HL := Lib.hid hL
  have HL' := Lib.hid hL'
  clear hp hq hL hL' hi hz0 hz1 hz2
  cases h1 : sheetOk fs
  · have HE : Hid (ofR fs gs = []) := by show _ = _; unfold ofR; rw [h1]; rfl
    have H1 := Lib.hid h1
    clear h1
    go_enter Tryz.func28, Tryz.ntmps28
    go_wp2_with fail
    refine (implSheetOk_any _ _ fs _ HP.out hl HL.out).mono ?_
    rintro e w1 ⟨rfl, hb1⟩
    rw [H1.out]
    have B1 := Lib.hid hb1
    clear hb1
    go_wp2
    go_ret
    rw [HE.out]
    exact ⟨⟨_, fun _ _ => (none, 0), rfl, builtC_none _ _ _ _⟩, B1.out⟩
  · cases h2 : sheetOk gs
    · have HE : Hid (ofR fs gs = []) := by show _ = _; unfold ofR; rw [h1, h2]; rfl
      have H1 := Lib.hid h1
      have H2 := Lib.hid h2
      clear h1 h2
      go_enter Tryz.func28, Tryz.ntmps28
      go_wp2_with fail
      refine (implSheetOk_any _ _ fs _ HP.out hl HL.out).mono ?_
      rintro e w1 ⟨rfl, hb1⟩
      rw [H1.out]
      go_wp2_with fail
      refine (implSheetOk_any _ _ gs _ (HQ.out.below hb1) hl' HL'.out).mono ?_
      rintro e w2 ⟨rfl, hb2⟩
      rw [H2.out]
      have B1 : Hid (Below w.heap.size w w2) := hb1.trans (hb2.mono hb1.size)
      clear hb1 hb2
      go_wp2
      go_ret
      rw [HE.out]
      exact ⟨⟨_, fun _ _ => (none, 0), rfl, builtC_none _ _ _ _⟩, B1.out⟩
    · have HE : Hid (ofR fs gs = ofN fs gs (namesOf (putTo fs gs gs.length))) := by show _ = _; unfold ofR; rw [h1, h2]; rfl
      have H1 := Lib.hid h1
      have H2 := Lib.hid h2
      have l1 := sheet_few h1
      have l2 := sheet_few h2
      clear h1 h2
      refine (callsIn_wide (n := 7)).1 ?_
      refine callsIn_of_wp_marks Tryz.func28 rfl trivial ?_ rfl
      simp only [Tryz.ntmps28, List.size_toArray, List.length_cons, List.length_nil, Nat.reduceAdd, Nat.reduceSub, Array.replicate_succ, Array.replicate_zero, List.push_toArray, List.append_toArray, List.nil_append, List.cons_append]
      refine wpIn_wide.2 ?_
      go_wp2_with fail
      refine (implSheetOk_any _ _ fs _ HP.out hl HL.out).mono ?_
      rintro e w1 ⟨rfl, hb1⟩
      rw [H1.out]
      go_wp2_with fail
      refine (implSheetOk_any _ _ gs _ (HQ.out.below hb1) hl' HL'.out).mono ?_
      rintro e w2 ⟨rfl, hb2⟩
      rw [H2.out]
      have B2 : Hid (Below w.heap.size w w2) := hb1.trans (hb2.mono hb1.size)
      clear hb1 hb2
      go_upto_region 4 with (fail)
      have zz2 := B2.out.size
      have X3 : Hid (Boxed (w2.alloc (.cells #[.slice none 0 0] 56)) w2.heap.size 56 (.slice none 0 0)) := Boxed.new _ _ _
      have B3 : Hid (Below w.heap.size w (w2.alloc (.cells #[.slice none 0 0] 56))) := B2.out.alloc zz2 _
      have z3 : w2.heap.size < (w2.alloc (.cells #[.slice none 0 0] 56)).heap.size := by simp
      generalize w2.alloc (.cells #[.slice none 0 0] 56) = w3 at *
      generalize w2.heap.size = Bd at *
      go_wp2_with fail
      refine (featsByName_from a cap fs w w3 B3.out HP.out hl HL.out).mono ?_
      rintro e w4 ⟨rfl, ⟨es, he, ho⟩, hb4⟩
      have B4 : Hid (Below w.heap.size w w4) := B3.out.trans (hb4.mono B3.out.size)
      have X4 : Hid (Boxed w4 Bd 56 (.slice none 0 0)) := (hb4.block _ (by omega)).trans X3.out
      have z4 := hb4.size
      have O4 := Lib.hid ho
      have zo4 := ho.lt
      clear hb4 ho X3
      go_wp2_with fail
      refine (featsByName_from a' cap' gs w w4 B4.out HQ.out hl' HL'.out).mono ?_
      rintro e w5 ⟨rfl, ⟨eg, he2, ho2⟩, hb5⟩
      have B5 : Hid (Below w.heap.size w w5) := B4.out.trans (hb5.mono B4.out.size)
      have X5 : Hid (Boxed w5 Bd 56 (.slice none 0 0)) := (hb5.block _ (by omega)).trans X4.out
      have z5 := hb5.size
      have O5 := Lib.hid (ownsMap_below O4.out hb5)
      have zo5 := ho2.lt
      have CB := Lib.hid (changesBetween_any w3.heap.size w4.heap.size fs.length gs.length (mapF es) (mapF eg) es eg fs gs w w5 O5.out ho2 (ok_tells he H1.out) (ok_tells he2 H2.out) he he2 (by have := ho2.size_le; omega))
      have sN := ho2.size_le
      have TS := Lib.hid (ok_tells he H1.out)
      have TG := Lib.hid (ok_tells he2 H2.out)
      have ES := Lib.hid he
      have EG := Lib.hid he2
      clear hb5 ho2 X4 O4 O5 he he2
      go_wp2_with fail
      refine CB.out.mono ?_
      rintro e w6 ⟨E, V, N, be, De, ue, rfl, ⟨cE, cV, cN⟩, ⟨oE, oW, oN⟩, tE, eE, ⟨q1, q2, q3, q4⟩, hb6⟩
      have B6 : Hid (Below w.heap.size w w6) := B5.out.trans (hb6.mono B5.out.size)
      have X6 : Hid (Boxed w6 Bd 56 (.slice none 0 0)) := (hb6.block _ (by omega)).trans X5.out
      have z6 := hb6.size
      have y1 := World.block_lt_of_cell? _ _ cE
      have y2 := World.block_lt_of_cell? _ _ cV
      have y3 := World.block_lt_of_cell? _ _ cN
      have CE := Lib.hid cE
      have CV := Lib.hid cV
      have CN := Lib.hid cN
      have OE := Lib.hid oE
      have OW := Lib.hid oW
      have ON := Lib.hid oN
      have TE := Lib.hid tE
      have EE := Lib.hid eE
      clear hb6 X5 CB cE cV cN oE oW oN tE eE
      go_wp2_with fail
      refine (wpIn_wide (n := 7)).1 ?_
      refine wpIn_told (F := Fence.wide) rfl (by omega) (gf := 118) (lb := #[.pointer (some ⟨E, 0, none⟩), .pointer (some ⟨V, 0, none⟩), .pointer (some ⟨N, 0, none⟩)]) rfl trivial (enters_of Tryz.func118 (by kernel_rfl) rfl) (encs := chV) (G := fun x Wp W => GivesC x Wp W) (Kp := fun A C => Only A C (ChgC w6.heap.size Bd)) (S := fun ys => ys.map (·.1) = ofN fs gs (namesOf (putTo fs gs gs.length))) (N := (putTo fs gs gs.length).length) (w0 := w6)
        (fun l J W hW hJ hY h0 => changesBetween1_in 6 (by omega) l E V N w6.heap.size Bd be w3.heap.size w4.heap.size _ _ _ De (mapF es) (mapF eg) ue es eg (putTo fs gs gs.length) fs gs J W w hJ hY h0 (cell_later hW CE.out) (cell_later hW CV.out) (cell_later hW CN.out) (ownsMap_below OE.out hW) (ownsMap_below OW.out hW) (ownsMap_below ON.out hW) TE.out TS.out TG.out EE.out ES.out EG.out (putTo_lens HL.out HL'.out _ (Nat.le_refl _)) HL.out HL'.out (B6.out.trans (hW.mono B6.out.size)) B6.out.size (by omega) (by have := hW.size; omega) ⟨y2, by omega⟩ ⟨y3, by omega⟩ (by omega) (by omega) (by omega))
        (fun h k => h.trans k) (fun W l o o' hl h k1 k2 => Only.put W o' (fun o2 h2 => by rw [h] at h2; cases h2; exact .inr ⟨hl, .inr ⟨k1, k2⟩⟩)) (Below.refl _ _) (fun _ => rfl)
        (GathC w w6 Bd) (gathC_own B6.out.size) ⟨_, fun _ _ => (none, 0), X6.out, builtC_none _ _ _ _, B6.out, Nat.le_refl _⟩
        (fun pre x a9 W => ∃ Bx, GathX w w6 Bd pre x Bx W ∧ a9 = { tmps := #[.slice a fs.length cap, .slice a' gs.length cap', undef, undef, .slice none 0 0, .pointer (some ⟨Bd, 0, none⟩), .pointer (some ⟨Bx, 0, none⟩), .slice a fs.length cap, .bool true, .bool false, .bool false, .slice a' gs.length cap', .bool true, .bool false, .bool false, .slice a fs.length cap, .map (some w3.heap.size), .slice a' gs.length cap', .map (some w4.heap.size), .func (.func 118) #[] #[.pointer (some ⟨E, 0, none⟩), .pointer (some ⟨V, 0, none⟩), .pointer (some ⟨N, 0, none⟩)], .agg (cellsC x.1 x.2).toArray, undef, undef, undef, undef, undef], defers := [] })
        (fun pre x a9 => by rintro s A C row ⟨Bx, h, rfl⟩ hg hr; exact ⟨Bx, gathX_own B6.out.size pre x Bx () A C row h hg hr, rfl⟩)
        ?assign ?body ?done
      case assign =>
        rintro l pre x Wp W K hi hz hb hx hK
        have HGI := Lib.hid (gath_in hi hb hx 102 rfl)
        clear hi hb hx
        simp only [chV]
        gi_wp2
        exact hK _ _ ((KeepsOthers.alloc _ _).from _) (Only.of_below ((Below.refl _ _).alloc (Nat.le_refl _) _)) ⟨W.heap.size, HGI.out, rfl⟩
      case body =>
        rintro l pre x a2 W hl' ⟨Bx, ⟨v, ad, m, h0, h1, h1b, h2, h3, h4, h5, h6, h7, h8, h9, h10⟩, rfl⟩ hlen
        have pl := putTo_len fs gs gs.length
        have kB : BK W Bx (cellsC x.1 x.2).toArray 102 := h1
        have hc := h2.cell
        have H2 := Lib.hid h2
        have H3 := Lib.hid h3
        have H6 := Lib.hid h6
        have H9 := Lib.hid h9
        have zx := kB.lt
        have c0 := kB.cell 0 (v := .string x.1.1) rfl
        have c1 := kB.cell 1 (v := .bool x.1.2.1) rfl
        have c2 := kB.cell 2 (v := .string x.1.2.2.1.1) rfl
        have c3 := kB.cell 3 (v := .int .i64 x.1.2.2.1.2.1) rfl
        have c4 := kB.cell 4 (v := .slice (x.2 0).1 x.1.2.2.1.2.2.1.length (x.2 0).2) rfl
        have c5 := kB.cell 5 (v := .slice (x.2 1).1 x.1.2.2.1.2.2.2.length (x.2 1).2) rfl
        have c6 := kB.cell 6 (v := .bool x.1.2.2.2.1) rfl
        have c7 := kB.cell 7 (v := .string x.1.2.2.2.2.1) rfl
        have c8 := kB.cell 8 (v := .int .i64 x.1.2.2.2.2.2.1) rfl
        have c9 := kB.cell 9 (v := .slice (x.2 2).1 x.1.2.2.2.2.2.2.1.length (x.2 2).2) rfl
        have c10 := kB.cell 10 (v := .slice (x.2 3).1 x.1.2.2.2.2.2.2.2.length (x.2 3).2) rfl
        have hrow' : W.ownsRow w.heap.size 102 11 v pre.length (flatC (pre.map (·.1)) ad pre.length) := ownsRow_base h3.row B6.out.size
        have HRW := Lib.hid hrow'
        clear h1 h2 h3 h6 h9 hrow' kB
        gi_wp2_with (gi_at_builtin; refine wpListIn_append_at _ rfl _ _ 56 rfl w6.heap.size 102 i0 _ 11 176 Tryz.underlying56 HI.out HZ0.out HZ1.out HZ2.out rfl (by omega) v pre.length (flatC (pre.map (·.1)) ad pre.length) rfl (H3.out.row.alloc _) ⟨W.heap.size, 0, none⟩ 1 1 (cellsC x.1 x.2) rfl rfl (World.news_of_block (cs := (cellsC x.1 x.2).toArray) (t := 102) (fr := (0, 0)) (heap_alloc_new W _)) (by simp [Value.oneCell', cellsC]) (by omega) (by unfold maxLen; omega) (by omega) (by simp; omega) (W.heap.size + 1) (by simp) ?_; intro gg cap2 u3 hown hgrow hat hlt; obtain ⟨hv1, hv2, hr2, hk2, hb2⟩ := H2.out.appended (by decide) HRW.out H9.out.size zz2 (ownsRow_base hown B6.out.size) hgrow; have hc1 := hv1.cell; have hf1 := hv1.frozen)
        have hm : (pre.map (·.1)).length = pre.length := List.length_map ..
        have H3' : Hid (BuiltC W w6.heap.size v pre.length (pre.map (·.1) ++ [x.1]) ad) := by
          have := H3.out
          show BuiltC W w6.heap.size v pre.length (pre.map (·.1) ++ [x.1]) ad
          rw [← hm] at this ⊢
          exact builtC_app this x.1
        have CGL : cg (pre.map (·.1) ++ [x.1]) pre.length = x.1 := by rw [← hm]; exact cg_last _ _
        have AL : Below W.heap.size W (W.alloc (.cells (cellsC x.1 x.2).toArray 102)) := (Below.refl _ _).alloc (Nat.le_refl _) _
        have ST := BuiltC.stepM (gg := gg) (cap' := cap2) (p := x.2) H3'.out h4 h5 h0 AL (by rw [CGL]; exact H6.out) h7 h8 (by rw [flatC_app _ _ _ _ (Nat.le_of_eq hm.symm), CGL]; exact hown) hgrow (hat.imp id fun e => by omega)
        have ST2 := ST.setLow (B := Bd) (u := .slice (some ⟨gg, 0, none⟩) (pre.length + 1) cap2) (by omega)
        have O1 : Only W (u3.setCell ⟨Bd, 0, none⟩ (.slice (some ⟨gg, 0, none⟩) (pre.length + 1) cap2)) (ChgC w6.heap.size Bd) :=
          ((Only.of_below AL).trans (Only.of_grown hgrow (fun r o e ho => by
            rcases (H3.out.row.alloc (.cells (cellsC x.1 x.2).toArray 102)).2 with ⟨rfl, _⟩ | ⟨g, cp, cur, rfl, hgb, hgh, _⟩
            · simp [Value.ownBlock] at e
            · obtain rfl : g = r := by simpa [Value.ownBlock] using e
              rw [hgh] at ho
              cases ho
              exact .inr ⟨hgb, .inl ⟨_, _, rfl⟩⟩))).trans (Only.set _ (fun o ho => .inl rfl))
        refine ⟨hk2.from _, O1, _, plSetC ad pre.length x.2, hv2, ?_, H9.out.trans hb2, Nat.le_trans h10 hb2.size⟩
        rw [List.map_append, List.length_append]
        exact ST2
      case done =>
        rintro D ys W hD hS ⟨v, ad, h1, h2, h3, h4⟩ hK
        have hc := h1.cell
        have HB := Lib.hid h2
        have HW := Lib.hid h3
        go_wp2
        refine ⟨by simp, .inl ⟨_, _, rfl, run_takeDeferred hK, ?_⟩⟩
        refine ⟨_, results_tmp rfl _ _ _, ⟨v, ad, rfl, ?_⟩, HW.out.trans (belowK_b (w := w) (Nat.le_refl _) W D _ _ (by omega) hK rfl rfl)⟩
        rw [HE.out, ← hS, List.length_map]
        exact (HB.out.nc (grownBy_putObj' W D (.deferred none)) (fun r e => by cases e; exact ⟨_, hK, rfl⟩)).base B6.out.size

end Go.Proofs.YtccgbengfmlgbaaGreat

namespace Go.Proofs.YtccgbengfmlgbaaGreat
set_option linter.unusedVariables false
open Go.ChangeShapes Go.WideShapes Go.ChangeAt Go.RowKit

/-- where the parts of a copied list lie -/
def plOf (fs : List Ft) (ad : Nat → Nat × Nat) (i : Nat) : Pl := ((some ⟨(ad i).1, 0, none⟩, (fps fs i).length), (some ⟨(ad i).2, 0, none⟩, (fts fs i).length))

theorem lies_of_row {fs : List Ft} {ad : Nat → Nat × Nat} {w : World} {b : Nat} {t : TypeId} (h : w.rowIs b t (fs.length * 4) (featCell fs ad)) (hp : Parts w b fs ad fs.length) : Lies w b 0 fs (plOf fs ad) ∧ Sep b fs.length (plOf fs ad) := by
  refine ⟨⟨fun i hi => ?_, fun i hi => ⟨h.frozen _, h.frozen _⟩, fun i hi => ⟨PtsAt.of_row (hp i hi).1, Soft.of_row (hp i hi).1⟩, fun i hi => ⟨TagsAt.of_row (hp i hi).2.1, Soft.of_row (hp i hi).2.1⟩, h.lt⟩, ?_⟩
  · obtain ⟨b', off', pa, pc, ta, tc, e, _, h1, h2, h3, h4, _⟩ := FeatsAt.of_row h hp i hi
    obtain ⟨rfl, rfl⟩ : b = b' ∧ 0 = off' := by simpa using e
    refine ⟨h1, h2, ?_, ?_⟩
    · have := h.cell (i := i * 4 + 2) (by omega)
      rw [Nat.zero_add, this]
      unfold featCell plOf
      rw [if_neg (by omega), if_neg (by omega), if_pos (by omega), show (i * 4 + 2) / 4 = i by omega]
    · have := h.cell (i := i * 4 + 3) (by omega)
      rw [Nat.zero_add, this]
      unfold featCell plOf
      rw [if_neg (by omega), if_neg (by omega), if_neg (by omega), show (i * 4 + 3) / 4 = i by omega]
  · refine ⟨fun i hi => ?_, fun i hi => ?_, fun i j hi hj hne => ?_⟩
    · obtain ⟨_, _, h3, h4, _⟩ := hp i hi
      constructor <;> (simp [plOf, blk]; omega)
    · obtain ⟨_, _, _, _, h5, _⟩ := hp i hi
      intro x hx e
      simp only [plOf, blk, Option.map_some, Option.some.injEq] at hx e
      omega
    · have key : ∀ i j, j < fs.length → i < j → (ad i).1 ≠ (ad j).1 ∧ (ad i).1 ≠ (ad j).2 ∧ (ad i).2 ≠ (ad j).1 ∧ (ad i).2 ≠ (ad j).2 := fun i j hj hij => by
        obtain ⟨_, _, _, _, _, h6⟩ := hp j hj
        have := h6 i hij
        omega
      have kk : (ad i).1 ≠ (ad j).1 ∧ (ad i).1 ≠ (ad j).2 ∧ (ad i).2 ≠ (ad j).1 ∧ (ad i).2 ≠ (ad j).2 := by
        rcases Nat.lt_or_gt_of_ne hne with h | h
        · exact key i j hj h
        · have := key j i hi h
          omega
      refine ⟨fun x hx e => ?_, fun x hx e => ?_, fun x hx e => ?_, fun x hx e => ?_⟩ <;> (simp only [plOf, blk, Option.map_some, Option.some.injEq] at hx e; omega)

theorem blocks_of_row {fs : List Ft} {ad : Nat → Nat × Nat} {w0 w : World} {b : Nat} {t : TypeId} (h : w.rowIs b t (fs.length * 4) (featCell fs ad)) (hp : Parts w b fs ad fs.length) (hb : w0.heap.size ≤ b) : ∀ x, blocksOf b fs.length (plOf fs ad) x → w0.heap.size ≤ x ∧ x < w.heap.size := by
  rintro x (rfl | ⟨i, hi, e | e⟩)
  · exact ⟨hb, h.lt⟩
  · obtain ⟨h1, _, h3, _⟩ := hp i hi
    have := h1.lt
    simp only [plOf, blk, Option.map_some, Option.some.injEq] at e
    omega
  · obtain ⟨_, h2, _, h4, _⟩ := hp i hi
    have := h2.lt
    simp only [plOf, blk, Option.map_some, Option.some.injEq] at e
    omega

theorem Box4.turned {w w' : World} {b : Nat} {v0 v1 v2 v3 : Value} {S : Nat → Prop} (h : Box4 w b v0 v1 v2 v3) (ht : Turned w w' S) (hn : ¬ S b) : Box4 w' b v0 v1 v2 v3 :=
  ⟨ht.cell h.1 hn, ht.cell h.2.1 hn, ht.cell h.2.2.1 hn, ht.cell h.2.2.2 hn⟩

theorem Turned.of_two {w w' : World} {a c : Option Addr} (h : Grown2 w w' a c) : Turned w w' (fun x => blk a = some x ∨ blk c = some x) := by
  obtain ⟨u, h1, h2⟩ := h
  exact (Turned.of_grown h1 fun x hx => .inl hx).trans (Turned.of_grown h2 fun x hx => .inr hx)

end Go.Proofs.YtccgbengfmlgbaaGreat

namespace Go.Proofs.YtccgbengfmlgbaaGreat
set_option linter.unusedVariables false
open Go.ChangeShapes Go.WideShapes Go.ChangeAt Go.RowKit

theorem ofR_len (fs gs : List Ft) : (ofR fs gs).length ≤ 1048576 := by
  unfold ofR
  split
  · rename_i h
    rw [Bool.and_eq_true] at h
    have h1 := sheet_few h.1
    have h2 := sheet_few h.2
    have h3 := ofN_le fs gs (namesOf (putTo fs gs gs.length))
    have h4 := putTo_len fs gs gs.length
    rw [namesOf_len] at h3
    unfold ofL
    omega
  · exact Nat.zero_le _
theorem chLen_iff {ds : List Ch} {m : Int} : ChLen ds m ↔ ∀ c ∈ ds, (c.1.size : Int) ≤ m ∧ FtLen c.2.2.1 m ∧ FtLen c.2.2.2.2 m := by
  constructor
  · intro h c hc
    obtain ⟨i, hi, rfl⟩ := List.getElem_of_mem hc
    have := h i hi
    unfold cid cwf cnf cg at this
    simpa [hi] using this
  · intro h i hi
    have := h ds[i] (List.getElem_mem hi)
    unfold cid cwf cnf cg
    simpa [hi] using this
theorem ofR_lens {fs gs : List Ft} {m : Int} (h : FeatsLen fs m) (hg : FeatsLen gs m) (h0 : 0 ≤ m := by omega) : ChLen (ofR fs gs) m := by
  unfold ofR
  split
  · refine chLen_iff.2 fun c hc => ?_
    unfold ofL ofN at hc
    obtain ⟨hc, _⟩ := List.mem_filter.1 hc
    obtain ⟨n, hn, rfl⟩ := List.mem_map.1 hc
    refine ⟨?_, sideOf_len h0 h n, sideOf_len h0 hg n⟩
    have hp := putTo_lens h hg gs.length (Nat.le_refl _)
    obtain ⟨i, hi, rfl⟩ := List.getElem_of_mem hn
    have hi' : i < (putTo fs gs gs.length).length := by rwa [namesOf_len] at hi
    have h1 := (hp i hi').1
    rw [← namesOf_at hi'] at h1
    simpa [sx, hi, chB] using h1
  · exact fun _ h => absurd h (Nat.not_lt_zero _)

set_option maxRecDepth 100000 in
set_option maxHeartbeats 8000000 in
theorem fnDiffOf_walk (a : Option Addr) (cap : Nat) (fs : List Ft) (a' : Option Addr) (cap' : Nat) (gs : List Ft) (w : World) (hf : FeatsIn w a fs) (hc : FeatsIn w a' gs) :
    Calls Tryz.prog 5 #[.slice a fs.length cap, .slice a' gs.length cap'] w fun e w' => e = .returned (.bool true) ∧ Below w.heap.size w w' := by
  have HF := Lib.hid hf
  have HC := Lib.hid hc
  clear hf hc
  go_enter Tryz.func5, Tryz.ntmps5
  go_wp2_with fail
  refine (szFeatS_any _ _ _ _ _ HF.out (by omega) (by omega)).mono ?_
  rintro e w1 ⟨⟨r, rfl, hs⟩, hb1⟩
  have B := Lib.hid hb1
  clear hb1
  rcases hs with rfl | ⟨r0, r1, l1, l2⟩
  · go_wp2
    go_ret
    exact ⟨rfl, B.out⟩
  have L2 : Hid (FeatsLen fs 1048576) := l2.mono (by omega)
  clear l2
  have m1 : fs.length ≤ 1048576 := by omega
  go_wp2_with fail
  refine (szFeatS_any _ _ _ _ _ (HC.out.below B.out) r0 (by omega)).mono ?_
  rintro e w2 ⟨⟨r', rfl, hs⟩, hn⟩
  replace B : Hid (Below w.heap.size w w2) := B.out.trans (hn.mono B.out.size)
  clear hn
  rcases hs with rfl | ⟨q0, q1, l1', l2⟩
  · go_wp2
    go_ret
    exact ⟨rfl, B.out⟩
  have L3 : Hid (FeatsLen gs 1048576) := l2.mono (by omega)
  clear l2
  have m2 : gs.length ≤ 1048576 := by omega
  go_wp2_with fail
  refine (toFeatS_any a cap fs _ (HF.out.reads.below B.out) m1 L2.out).mono ?_
  rintro e u1 ⟨b1, ad1, rfl, rr1, pp1, hx1, hn⟩
  replace B : Hid (Below w.heap.size w u1) := B.out.trans (hn.mono B.out.size)
  have H1 := Lib.hid (FeatsAt.of_row rr1 pp1)
  clear hn rr1 pp1 hx1
  go_wp2_with fail
  refine (toFeatS_any a' cap' gs _ (HC.out.reads.below B.out) m2 L3.out).mono ?_
  rintro e u2 ⟨b2, ad2, rfl, rr2, pp2, hx2, hn⟩
  replace B : Hid (Below w.heap.size w u2) := B.out.trans (hn.mono B.out.size)
  replace H1 := Lib.hid (H1.out.below hn)
  have H2 := Lib.hid (FeatsAt.of_row rr2 pp2)
  clear hn rr2 pp2 hx2
  go_wp2_with fail
  refine (specDiffOf_any _ _ fs _ _ gs _ H1.out H2.out m1 m2 L2.out L3.out).mono ?_
  rintro e u3 ⟨⟨aw, cw, rfl, hg⟩, hn⟩
  have zw := B.out.size
  replace B : Hid (Below w.heap.size w u3) := B.out.trans (hn.mono B.out.size)
  have IG : Hid (∀ u x c x' c', FeatsAt u x fs → FeatsAt u x' gs → Calls Tryz.prog 28 #[.slice x fs.length c, .slice x' gs.length c'] u fun e w' => (∃ v ad, e = .returned v ∧ BuiltC w' u.heap.size v (ofR fs gs).length (ofR fs gs) ad) ∧ Below u.heap.size u w') := fun u x c x' c' hx hx' => implDiffOf_any x c fs x' c' gs u hx hx' m1 m2 L2.out L3.out
  have mg : (ofR fs gs).length ≤ 1048576 := ofR_len fs gs
  have LG := Lib.hid (ofR_lens L2.out L3.out)
  have G0 := Lib.hid hg
  have z1 := hn.size
  clear hn H1 H2 hg
  generalize ofR fs gs = ds at *
  go_wp2_with fail
  refine (toFeatS_any a cap fs _ (HF.out.reads.below B.out) m1 L2.out).mono ?_
  rintro e u4 ⟨b3, ad3, rfl, rr3, pp3, hx3, hn⟩
  replace B : Hid (Below w.heap.size w u4) := B.out.trans (hn.mono B.out.size)
  replace G0 := Lib.hid (G0.out.below hn)
  have X0 := Lib.hid (lies_of_row rr3 pp3).1
  have XS := Lib.hid (lies_of_row rr3 pp3).2
  have XB := Lib.hid (blocks_of_row rr3 pp3 hx3)
  have z2 := hn.size
  clear hn rr3 pp3
  go_wp2_with fail
  refine (toFeatS_any a' cap' gs _ (HC.out.reads.below B.out) m2 L3.out).mono ?_
  rintro e u5 ⟨b4, ad4, rfl, rr4, pp4, hx4, hn⟩
  replace B : Hid (Below w.heap.size w u5) := B.out.trans (hn.mono B.out.size)
  replace G0 := Lib.hid (G0.out.below hn)
  replace X0 := Lib.hid (X0.out.below hn)
  have Y0 := Lib.hid (lies_of_row rr4 pp4).1
  have YS := Lib.hid (lies_of_row rr4 pp4).2
  have YB := Lib.hid (blocks_of_row rr4 pp4 hx4)
  have z3 := hn.size
  clear hn rr4 pp4
  go_wp2_with fail
  refine (IG.out _ _ _ _ _ X0.out.reads Y0.out.reads).mono ?_
  rintro e u6 ⟨⟨v1, adg, rfl, hbu⟩, hn⟩
  obtain ⟨ga, gc, rfl, hLH⟩ := hbu.listH
  have LH := Lib.hid hLH
  replace B : Hid (Below w.heap.size w u6) := B.out.trans (hn.mono B.out.size)
  replace G0 := Lib.hid (G0.out.below hn)
  replace X0 := Lib.hid (X0.out.below hn)
  replace Y0 := Lib.hid (Y0.out.below hn)
  have z4 := hn.size
  clear hn hbu hLH
  go_wp2_with fail
  refine (eqChangeS_any _ _ _ _ ds ds _ LH.out.reads G0.out.1 mg mg LG.out LG.out).mono ?_
  rintro e u7 ⟨rfl, hn⟩
  rw [show csEq ds ds = true by simp [csEq]]
  replace B : Hid (Below w.heap.size w u7) := B.out.trans (hn.mono B.out.size)
  replace G0 := Lib.hid (G0.out.below hn)
  replace X0 := Lib.hid (X0.out.below hn)
  replace Y0 := Lib.hid (Y0.out.below hn)
  replace LH := Lib.hid (LH.out.below hn)
  clear hn
  go_wp2_with fail
  refine (toFeatS_any a cap fs _ (HF.out.reads.below B.out) m1 L2.out).mono ?_
  rintro e u8 ⟨b8, ad8, rfl, rr8, pp8, _, hn⟩
  have H8 := Lib.hid (FeatsAt.of_row rr8 pp8)
  replace B : Hid (Below w.heap.size w u8) := B.out.trans (hn.mono B.out.size)
  replace G0 := Lib.hid (G0.out.below hn)
  replace X0 := Lib.hid (X0.out.below hn)
  replace Y0 := Lib.hid (Y0.out.below hn)
  replace LH := Lib.hid (LH.out.below hn)
  clear hn rr8 pp8
  go_wp2_with fail
  refine (eqFeatS_any _ _ _ _ fs fs _ X0.out.reads H8.out m1 m1 L2.out L2.out).mono ?_
  rintro e u9 ⟨rfl, hn⟩
  rw [show fsEq fs fs = true by simp [fsEq]]
  replace B : Hid (Below w.heap.size w u9) := B.out.trans (hn.mono B.out.size)
  replace G0 := Lib.hid (G0.out.below hn)
  replace X0 := Lib.hid (X0.out.below hn)
  replace Y0 := Lib.hid (Y0.out.below hn)
  replace LH := Lib.hid (LH.out.below hn)
  clear hn H8
  go_wp2_with fail
  refine (toFeatS_any a' cap' gs _ (HC.out.reads.below B.out) m2 L3.out).mono ?_
  rintro e v1 ⟨b9, ad9, rfl, rr9, pp9, _, hn⟩
  have H9 := Lib.hid (FeatsAt.of_row rr9 pp9)
  replace B : Hid (Below w.heap.size w v1) := B.out.trans (hn.mono B.out.size)
  replace G0 := Lib.hid (G0.out.below hn)
  replace X0 := Lib.hid (X0.out.below hn)
  replace Y0 := Lib.hid (Y0.out.below hn)
  replace LH := Lib.hid (LH.out.below hn)
  clear hn rr9 pp9
  go_wp2_with fail
  refine (eqFeatS_any _ _ _ _ gs gs _ Y0.out.reads H9.out m2 m2 L3.out L3.out).mono ?_
  rintro e v2 ⟨rfl, hn⟩
  rw [show fsEq gs gs = true by simp [fsEq]]
  replace B : Hid (Below w.heap.size w v2) := B.out.trans (hn.mono B.out.size)
  replace G0 := Lib.hid (G0.out.below hn)
  replace X0 := Lib.hid (X0.out.below hn)
  replace Y0 := Lib.hid (Y0.out.below hn)
  replace LH := Lib.hid (LH.out.below hn)
  clear hn H9
  go_wp2_with fail
  refine (markFeatS_some b3 0 _ fs _ 1 _ m1 L2.out (by omega) (by omega) X0.out XS.out).mono ?_
  rintro e v3 ⟨rfl, _, ht⟩
  replace B : Hid (Below w.heap.size w v3) := B.out.trans (ht.below B.out.size (fun x hx => by have := (XB.out x hx).1; omega))
  replace G0 := Lib.hid (G0.out.turned ht (fun x _ h2 h => by have := (XB.out x h).1; omega))
  replace Y0 := Lib.hid (Y0.out.turned ht (fun x hx h => by have h1 := (XB.out x h).2; have h2 := (YB.out x hx).1; omega))
  replace LH := Lib.hid (LH.out.turned ht (fun x h1 _ h => by have := (XB.out x h).2; omega))
  obtain ⟨kk0, kk1⟩ := lmk_le (k := 1) (by omega) (by omega) L2.out fs.length (Nat.le_refl _)
  generalize lmk fs 1 fs.length = kk at kk0 kk1
  clear ht X0 XS
  go_wp2_with fail
  refine (markFeatS_some b4 0 _ gs _ _ _ m2 L3.out kk0 (by omega) Y0.out YS.out).mono ?_
  rintro e v4 ⟨rfl, _, ht⟩
  replace B : Hid (Below w.heap.size w v4) := B.out.trans (ht.below B.out.size (fun x hx => by have := (YB.out x hx).1; omega))
  replace G0 := Lib.hid (G0.out.turned ht (fun x _ h2 h => by have := (YB.out x h).1; omega))
  replace LH := Lib.hid (LH.out.turned ht (fun x h1 _ h => by have := (YB.out x h).2; omega))
  have jj0 := (lmk_le (k := kk) kk0 (by omega) L3.out gs.length (Nat.le_refl _)).1
  generalize lmk gs kk gs.length = kj at jj0
  clear ht Y0 YS
  go_wp2_with fail
  refine (eqChangeS_any _ _ _ _ ds ds _ LH.out.reads G0.out.1 mg mg LG.out LG.out).mono ?_
  rintro e v5 ⟨rfl, hn⟩
  rw [show csEq ds ds = true by simp [csEq]]
  replace B : Hid (Below w.heap.size w v5) := B.out.trans (hn.mono B.out.size)
  replace G0 := Lib.hid (G0.out.below hn)
  replace LH := Lib.hid (LH.out.below hn)
  clear hn
  go_wp2_with fail
  refine (markChangeS_list _ _ _ _ ds 1 _ mg LG.out (by omega) (by omega) LH.out).mono ?_
  rintro e v6 ⟨rfl, hM, ht⟩
  have M := Lib.hid hM
  replace B : Hid (Below w.heap.size w v6) := B.out.trans (ht.below B.out.size (fun x hx => by have := hx.1; omega))
  replace G0 := Lib.hid (G0.out.turned ht (fun x _ h2 h => by have := h.1; omega))
  clear hM ht LH
  obtain ⟨j0, j1⟩ := cmn_le (k := 1) (by omega) (by omega) LG.out ds.length (Nat.le_refl _)
  have HH : Hid (∀ u c, ChangesAt u ga (cmTo ds 1 ds.length) → Calls Tryz.prog 31 #[.slice ga ds.length c, .int .i64 1] u fun e w' => e = .returned (.int .i64 (cmn ds 1 ds.length)) ∧ Below u.heap.size u w') := fun u c h => heldChangeS_any ga c ds 1 u h mg LG.out (by omega) (by omega)
  generalize cmn ds 1 ds.length = jj at *
  generalize cmTo ds 1 ds.length = ms at *
  have hq : (jj != jj) = false := by simp
  go_wp2_with fail
  refine (HH.out _ _ M.out).mono ?_
  rintro e v7 ⟨rfl, hn⟩
  replace B : Hid (Below w.heap.size w v7) := B.out.trans (hn.mono B.out.size)
  replace G0 := Lib.hid (G0.out.below hn)
  replace M := Lib.hid (M.out.below hn)
  clear hn
  go_wp2_with fail
  refine (toFeatS_any a cap fs _ (HF.out.reads.below B.out) m1 L2.out).mono ?_
  rintro e v8 ⟨c1, ae1, rfl, rs1, ps1, _, hn⟩
  have H1 := Lib.hid (FeatsAt.of_row rs1 ps1)
  replace B : Hid (Below w.heap.size w v8) := B.out.trans (hn.mono B.out.size)
  replace G0 := Lib.hid (G0.out.below hn)
  replace M := Lib.hid (M.out.below hn)
  clear hn rs1 ps1
  go_wp2_with fail
  refine (toFeatS_any a' cap' gs _ (HC.out.reads.below B.out) m2 L3.out).mono ?_
  rintro e v9 ⟨c2, ae2, rfl, rs2, ps2, _, hn⟩
  have H2 := Lib.hid (FeatsAt.of_row rs2 ps2)
  replace B : Hid (Below w.heap.size w v9) := B.out.trans (hn.mono B.out.size)
  replace G0 := Lib.hid (G0.out.below hn)
  replace M := Lib.hid (M.out.below hn)
  replace H1 := Lib.hid (H1.out.below hn)
  clear hn rs2 ps2
  go_wp2_with fail
  refine (IG.out _ _ _ _ _ H1.out H2.out).mono ?_
  rintro e x1 ⟨⟨v9', ad9, rfl, hbu⟩, hn⟩
  obtain ⟨ha, hc, rfl, hLH⟩ := hbu.listH
  have LH := Lib.hid hLH
  replace B : Hid (Below w.heap.size w x1) := B.out.trans (hn.mono B.out.size)
  replace G0 := Lib.hid (G0.out.below hn)
  replace M := Lib.hid (M.out.below hn)
  clear hn hbu hLH H1 H2
  go_wp2_with fail
  refine (eqChangeS_any _ _ _ _ ds ds _ LH.out.reads G0.out.1 mg mg LG.out LG.out).mono ?_
  rintro e x2 ⟨rfl, hn⟩
  rw [show csEq ds ds = true by simp [csEq]]
  replace B : Hid (Below w.heap.size w x2) := B.out.trans (hn.mono B.out.size)
  replace G0 := Lib.hid (G0.out.below hn)
  replace M := Lib.hid (M.out.below hn)
  clear hn LH
  go_wp2_with fail
  refine (HH.out _ _ M.out).mono ?_
  rintro e x3 ⟨rfl, hn⟩
  replace B : Hid (Below w.heap.size w x3) := B.out.trans (hn.mono B.out.size)
  replace G0 := Lib.hid (G0.out.below hn)
  replace M := Lib.hid (M.out.below hn)
  clear hn
  go_wp2
  go_ret
  exact ⟨rfl, B.out⟩

set_option maxRecDepth 100000 in
theorem fnExactDiffOf_lifted (os : Os) (started : os.Started) (H : Type) (enc : TypeId × Value → H) :
    ReturnsInHanded {} Tryz.checked os 5 .any (Rows.fnExactDiffOfSpec.pre6 enc Tryz.prog Tryz.f5 Rows.fnExactDiffOfRow.domain false) (Rows.fnExactDiffOfSpec.post enc Tryz.prog Tryz.f5 false true false false) := by
  refine returnsInHanded_of_change (C := Tryz.checked) own started (by kernel_rfl) Tryz.func5
    (ChangeSpec.witness6 (enc := enc) (C := Tryz.checked) false ⟨#[], #[.slice none 0 0, .slice none 0 0], []⟩ 8 (by kernel_rfl) (by kernel_rfl) (by kernel_rfl) (by kernel_rfl)) ?_
  intro W base args ds gs before hval0 hW _ _
  have hval : ∀ (j : Nat) t v, Tryz.f5.params[j]? = some t → args[j]? = some v → Value.okWide Tryz.prog W .any base t v := hval0
  have hW' := hW
  obtain ⟨p, q, hA0, hV, rfl, _, _⟩ := hW
  have hA : DataW.TrodAll enc Tryz.prog W 0 (fun _ => true) true Tryz.f5.params.toList args.toList ds p := hA0
  rw [Tryz.params5] at hA hval
  obtain ⟨v0, vs0, d0, ds0, p0, q0, hargs, rfl, rfl, h0, r0⟩ := trodAll_cons hA
  obtain ⟨v1, vs1, d1, ds1, p1, q1, rfl, rfl, rfl, h1, r1⟩ := trodAll_cons r0
  obtain ⟨rfl, rfl, rfl⟩ := trodAll_nil r1
  obtain rfl : args = #[v0, v1] := by cases args; simp_all
  obtain ⟨rfl, rfl⟩ := trodVars_none hV
  have k0 := h0
  have lt0 : ∀ x ∈ p0, x.block < W.heap.size := by obtain ⟨m, hm⟩ := k0; exact DataW.trod_lt m _ _ _ hm
  obtain ⟨a0, c0, s0, rfl, f0⟩ := open_feats (hval 0 44 v0 rfl rfl) h0
  have k1 := h1
  have lt1 : ∀ x ∈ p1, x.block < W.heap.size := by obtain ⟨m, hm⟩ := k1; exact DataW.trod_lt m _ _ _ hm
  obtain ⟨a1, c1, s1, rfl, f1⟩ := open_feats (hval 1 44 v1 rfl rfl) h1
  clear hA0 hval0
  refine (fnDiffOf_walk a0 c0 s0 a1 c1 s1 W f0 f1).mono fun e W' ⟨he, bel⟩ => ?_
  subst he
  exact ⟨_, rfl, _, _, _, [], _, [], hW', trodAll_mk1 (shut_bool Tryz.underlying4 _), (trodAll_cons_mk (Below.trod laidOut (by kernel_rfl) (of_decide_eq_true (by kernel_rfl)) k0 bel lt0) (trodAll_cons_mk (Below.trod laidOut (by kernel_rfl) (of_decide_eq_true (by kernel_rfl)) k1 bel lt1) trodAll_mk0)), rfl, bel.frame _, fun h => by cases h⟩

theorem fnExactDiffOf_over : Rows.fnExactDiffOfRow.holds Tryz.pinned (OpenSpec.ofChange Rows.fnExactDiffOfSpec) :=
  OpenClaim.holds_of_wide 5 Tryz.f5 rfl rfl rfl rfl rfl rfl rfl ⟨rfl, rfl, rfl, rfl, rfl⟩ rfl rfl rfl rfl rfl (by kernel_rfl) Tryz.func5 (by kernel_rfl)
    (of_decide_eq_true (by kernel_rfl)) (by unfold Func.isWrapper; first | (rw [if_pos (by decide +kernel)]; kernel_rfl) | (rw [if_neg (by decide +kernel)]; exact ⟨rfl, rfl⟩))
    (fun os started H enc _ => fnExactDiffOf_lifted os started H enc)

/-- the given statement -/
theorem fnExactDiffOf_holds : Rows.FnExactDiffOfSaid := fnExactDiffOf_over

end Go.Proofs.YtccgbengfmlgbaaGreat
