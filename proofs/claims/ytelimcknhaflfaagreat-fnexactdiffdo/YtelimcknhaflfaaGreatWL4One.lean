/- Proved here: the model and the program ask whether a change, and whether a list of changes, is right as the plain definition 'diffOk' says; lists of at most 1,048,576. -/
import Derived.Test.YtelimcknhaflfaaGreatWChangeEq
import Derived.Test.YtelimcknhaflfaaGreatWFeatOk
import Derived.Test.YtelimcknhaflfaaGreatWQuietB
import Derived.BigQuiet
namespace Go.Proofs.YtelimcknhaflfaaGreat
set_option linter.unusedVariables false
open Go.ChangeShapes Go.WideShapes Go.ChangeAt Go.RowKit

/-- nothing -/
def zft : Ft := (.empty, 0, [], [])
/-- a thing is one -/
def ftGood (f : Ft) : Bool := featOk f.1 f.2.1 f.2.2.1 f.2.2.2
/-- one side of a change is right -/
def sideGood (i : ByteArray) (h : Bool) (f : Ft) : Bool := if h then ftGood f && decide (f.1 = i) else ftEq f zft
/-- a change turns something -/
def turns (h : Bool) (f : Ft) (s : Bool) (g : Ft) : Bool := (h != s) || !ftEq f g
/-- a change is right -/
def chOk (i : ByteArray) (h : Bool) (f : Ft) (s : Bool) (g : Ft) : Bool := wordOk i && (sideGood i h f && (sideGood i s g && turns h f s g))

theorem ftEq_self (f : Ft) : ftEq f f = true := by simp [ftEq]
theorem ftEq_zero {f g : Ft} (h : ftEq f zft = true) (h' : ftEq g zft = true) : ftEq f g = true := by
  simp only [ftEq, decide_eq_true_eq] at h h' ⊢
  rw [h, h']

theorem chOk_none {i : ByteArray} {f g : Ft} : chOk i false f false g = false := by
  unfold chOk sideGood turns
  cases h1 : ftEq f zft
  · simp
  · cases h2 : ftEq g zft
    · simp
    · simp [ftEq_zero h1 h2]

set_option maxRecDepth 100000 in
set_option maxHeartbeats 8000000 in
theorem l4One_any (i : ByteArray) (h : Bool) (f : Ft) (s : Bool) (g : Ft) (pa : Option Addr) (pc : Nat) (ta : Option Addr) (tc : Nat) (qa : Option Addr) (qc : Nat) (ua : Option Addr) (uc : Nat) (w : World) (hp : PtsAt w pa f.2.2.1) (ht : TagsAt w ta f.2.2.2) (hq : PtsAt w qa g.2.2.1) (hu : TagsAt w ua g.2.2.2) (li : i.size ≤ 1048576) (lf : FtLen f 1048576) (lg : FtLen g 1048576) :
    Calls Tryz.prog 72 #[.agg #[.string i, .bool h, .string f.1, .int .i64 f.2.1, .slice pa f.2.2.1.length pc, .slice ta f.2.2.2.length tc, .bool s, .string g.1, .int .i64 g.2.1, .slice qa g.2.2.1.length qc, .slice ua g.2.2.2.length uc]] w fun e w' => e = .returned (.bool (chOk i h f s g)) ∧ Below w.heap.size w w' := by
  have HP := Lib.hid hp
  have HT := Lib.hid ht
  have HQ := Lib.hid hq
  have HU := Lib.hid hu
  have LF := Lib.hid lf
  have LG := Lib.hid lg
  obtain ⟨lf1, lf2, lf3, lf4⟩ := lf
  obtain ⟨lg1, lg2, lg3, lg4⟩ := lg
  clear hp ht hq hu lf4 lg4
  have A1 : Hid (∀ o, Below w.heap.size w (w.alloc o)) := fun o => (Below.refl _ _).alloc (Nat.le_refl _) _
  have SZ : Hid (∀ u, Below w.heap.size w u → PtsAt u none [] ∧ TagsAt u none []) := fun u _ => ⟨PtsAt.nil _ _, TagsAt.nil _ _⟩
  have FG : Hid (∀ u, Below w.heap.size w u → Calls Tryz.prog 52 #[.agg #[.string f.1, .int .i64 f.2.1, .slice pa f.2.2.1.length pc, .slice ta f.2.2.2.length tc], .agg #[.string g.1, .int .i64 g.2.1, .slice qa g.2.2.1.length qc, .slice ua g.2.2.2.length uc]] u fun e w' => e = .returned (.bool (ftEq f g)) ∧ Below u.heap.size u w') := fun u hu => by
    have := specFeatSame_any f.1 g.1 f.2.1 g.2.1 pa qa pc qc f.2.2.1 g.2.2.1 ta ua tc uc f.2.2.2 g.2.2.2 u (HP.out.below hu) (HQ.out.below hu) (HT.out.below hu) (HU.out.below hu) (by omega) (by omega) (by omega) (by omega)
    rwa [featEq_ft] at this
  have FZ : Hid (∀ u, Below w.heap.size w u → Calls Tryz.prog 52 #[.agg #[.string f.1, .int .i64 f.2.1, .slice pa f.2.2.1.length pc, .slice ta f.2.2.2.length tc], .agg #[.string ⟨#[]⟩, .int .i64 0, .slice none 0 0, .slice none 0 0]] u fun e w' => e = .returned (.bool (ftEq f zft)) ∧ Below u.heap.size u w') := fun u hu => by
    have := specFeatSame_any f.1 .empty f.2.1 0 pa none pc 0 f.2.2.1 [] ta none tc 0 f.2.2.2 [] u (HP.out.below hu) (PtsAt.nil _ _) (HT.out.below hu) (TagsAt.nil _ _) (by omega) (by simp) (by omega) (by simp)
    rw [show featEq f.1 .empty f.2.1 0 f.2.2.1 [] f.2.2.2 [] = ftEq f zft from featEq_ft f zft] at this
    exact this
  have GZ : Hid (∀ u, Below w.heap.size w u → Calls Tryz.prog 52 #[.agg #[.string g.1, .int .i64 g.2.1, .slice qa g.2.2.1.length qc, .slice ua g.2.2.2.length uc], .agg #[.string ⟨#[]⟩, .int .i64 0, .slice none 0 0, .slice none 0 0]] u fun e w' => e = .returned (.bool (ftEq g zft)) ∧ Below u.heap.size u w') := fun u hu => by
    have := specFeatSame_any g.1 .empty g.2.1 0 qa none qc 0 g.2.2.1 [] ua none uc 0 g.2.2.2 [] u (HQ.out.below hu) (PtsAt.nil _ _) (HU.out.below hu) (TagsAt.nil _ _) (by omega) (by simp) (by omega) (by simp)
    rw [show featEq g.1 .empty g.2.1 0 g.2.2.1 [] g.2.2.2 [] = ftEq g zft from featEq_ft g zft] at this
    exact this
  have FO : Hid (∀ u, Below w.heap.size w u → Calls Tryz.prog 59 #[.agg #[.string f.1, .int .i64 f.2.1, .slice pa f.2.2.1.length pc, .slice ta f.2.2.2.length tc]] u fun e w' => e = .returned (.bool (ftGood f)) ∧ Below u.heap.size u w') := fun u hu =>
    specFeatOk_any _ _ _ _ _ _ _ _ _ (HP.out.below hu) (HT.out.below hu) (by omega) (by omega) (by omega) LF.out.2.2.2
  have GO : Hid (∀ u, Below w.heap.size w u → Calls Tryz.prog 59 #[.agg #[.string g.1, .int .i64 g.2.1, .slice qa g.2.2.1.length qc, .slice ua g.2.2.2.length uc]] u fun e w' => e = .returned (.bool (ftGood g)) ∧ Below u.heap.size u w') := fun u hu =>
    specFeatOk_any _ _ _ _ _ _ _ _ _ (HQ.out.below hu) (HU.out.below hu) (by omega) (by omega) (by omega) LG.out.2.2.2
  clear HP HT HQ HU LF LG SZ
  have e1 := bytes_beq f.1 i
  have e2 := bytes_beq g.1 i

  cases h
  · cases s
    · go_enter Tryz.func72, Tryz.ntmps72
      go_wp2_with fail
      refine (specWordOk_any _ _ li).mono ?_
      rintro e w0 ⟨rfl, rfl⟩
      by_cases hW : wordOk i = true
      · rw [hW]
        have HW := Lib.hid hW
        clear hW
        go_wp2
        go_ret
        exact ⟨by rw [chOk_none]; rfl, A1.out _⟩
      · have hW' : wordOk i = false := by simpa using hW
        rw [hW']
        have HW := Lib.hid hW'
        clear hW hW'
        go_wp2
        go_ret
        exact ⟨by simp [chOk, sideGood, turns, HW.out], A1.out _⟩
    · go_enter Tryz.func72, Tryz.ntmps72
      go_wp2_with fail
      refine (specWordOk_any _ _ li).mono ?_
      rintro e w0 ⟨rfl, rfl⟩
      by_cases hW : wordOk i = true
      · rw [hW]
        have HW := Lib.hid hW
        clear hW
        go_wp2_with fail
        refine (FZ.out _ (A1.out _)).mono ?_
        rintro e w1 ⟨rfl, hb⟩
        have c0 := cell_later hb (a := ⟨w.heap.size, 0, none⟩) (v := .string i) (by simp [go_sem])
        have c1 := cell_later hb (a := ⟨w.heap.size, 1, none⟩) (v := .bool false) (by simp [go_sem])
        have c2 := cell_later hb (a := ⟨w.heap.size, 2, none⟩) (v := .string f.1) (by simp [go_sem])
        have c3 := cell_later hb (a := ⟨w.heap.size, 3, none⟩) (v := .int .i64 f.2.1) (by simp [go_sem])
        have c4 := cell_later hb (a := ⟨w.heap.size, 4, none⟩) (v := .slice pa f.2.2.1.length pc) (by simp [go_sem])
        have c5 := cell_later hb (a := ⟨w.heap.size, 5, none⟩) (v := .slice ta f.2.2.2.length tc) (by simp [go_sem])
        have c6 := cell_later hb (a := ⟨w.heap.size, 6, none⟩) (v := .bool true) (by simp [go_sem])
        have c7 := cell_later hb (a := ⟨w.heap.size, 7, none⟩) (v := .string g.1) (by simp [go_sem])
        have c8 := cell_later hb (a := ⟨w.heap.size, 8, none⟩) (v := .int .i64 g.2.1) (by simp [go_sem])
        have c9 := cell_later hb (a := ⟨w.heap.size, 9, none⟩) (v := .slice qa g.2.2.1.length qc) (by simp [go_sem])
        have c10 := cell_later hb (a := ⟨w.heap.size, 10, none⟩) (v := .slice ua g.2.2.2.length uc) (by simp [go_sem])
        have B1 : Hid (Below w.heap.size w w1) := (A1.out _).trans (hb.mono (by simp))
        clear hb
        by_cases hZ1 : ftEq f zft = true
        · rw [hZ1]
          have HZ1 := Lib.hid hZ1
          clear hZ1
          go_wp2_with fail
          refine (GO.out _ (B1.out)).mono ?_
          rintro e w2 ⟨rfl, hb⟩
          replace c0 := cell_later hb c0
          replace c1 := cell_later hb c1
          replace c2 := cell_later hb c2
          replace c3 := cell_later hb c3
          replace c4 := cell_later hb c4
          replace c5 := cell_later hb c5
          replace c6 := cell_later hb c6
          replace c7 := cell_later hb c7
          replace c8 := cell_later hb c8
          replace c9 := cell_later hb c9
          replace c10 := cell_later hb c10
          have B2 : Hid (Below w.heap.size w w2) := B1.out.trans (hb.mono B1.out.size)
          clear hb
          by_cases hO2 : ftGood g = true
          · rw [hO2]
            have HO2 := Lib.hid hO2
            clear hO2
            by_cases hI2 : g.1 = i
            · rw [decide_eq_true hI2] at e2
              have HI2 : Hid (decide (g.1 = i) = true) := decide_eq_true hI2
              clear hI2
              go_wp2
              go_ret
              exact ⟨by simp [chOk, sideGood, turns, HW.out, HZ1.out, HO2.out, HI2.out], B2.out⟩
            · rw [decide_eq_false hI2] at e2
              have HI2 : Hid (decide (g.1 = i) = false) := decide_eq_false hI2
              clear hI2
              go_wp2
              go_ret
              exact ⟨by simp [chOk, sideGood, turns, HW.out, HZ1.out, HO2.out, HI2.out], B2.out⟩
          · have hO2' : ftGood g = false := by simpa using hO2
            rw [hO2']
            have HO2 := Lib.hid hO2'
            clear hO2 hO2'
            go_wp2
            go_ret
            exact ⟨by simp [chOk, sideGood, turns, HW.out, HZ1.out, HO2.out], B2.out⟩
        · have hZ1' : ftEq f zft = false := by simpa using hZ1
          rw [hZ1']
          have HZ1 := Lib.hid hZ1'
          clear hZ1 hZ1'
          go_wp2
          go_ret
          exact ⟨by simp [chOk, sideGood, turns, HW.out, HZ1.out], B1.out⟩
      · have hW' : wordOk i = false := by simpa using hW
        rw [hW']
        have HW := Lib.hid hW'
        clear hW hW'
        go_wp2
        go_ret
        exact ⟨by simp [chOk, sideGood, turns, HW.out], A1.out _⟩
  · cases s
    · go_enter Tryz.func72, Tryz.ntmps72
      go_wp2_with fail
      refine (specWordOk_any _ _ li).mono ?_
      rintro e w0 ⟨rfl, rfl⟩
      by_cases hW : wordOk i = true
      · rw [hW]
        have HW := Lib.hid hW
        clear hW
        go_wp2_with fail
        refine (GZ.out _ (A1.out _)).mono ?_
        rintro e w1 ⟨rfl, hb⟩
        have c0 := cell_later hb (a := ⟨w.heap.size, 0, none⟩) (v := .string i) (by simp [go_sem])
        have c1 := cell_later hb (a := ⟨w.heap.size, 1, none⟩) (v := .bool true) (by simp [go_sem])
        have c2 := cell_later hb (a := ⟨w.heap.size, 2, none⟩) (v := .string f.1) (by simp [go_sem])
        have c3 := cell_later hb (a := ⟨w.heap.size, 3, none⟩) (v := .int .i64 f.2.1) (by simp [go_sem])
        have c4 := cell_later hb (a := ⟨w.heap.size, 4, none⟩) (v := .slice pa f.2.2.1.length pc) (by simp [go_sem])
        have c5 := cell_later hb (a := ⟨w.heap.size, 5, none⟩) (v := .slice ta f.2.2.2.length tc) (by simp [go_sem])
        have c6 := cell_later hb (a := ⟨w.heap.size, 6, none⟩) (v := .bool false) (by simp [go_sem])
        have c7 := cell_later hb (a := ⟨w.heap.size, 7, none⟩) (v := .string g.1) (by simp [go_sem])
        have c8 := cell_later hb (a := ⟨w.heap.size, 8, none⟩) (v := .int .i64 g.2.1) (by simp [go_sem])
        have c9 := cell_later hb (a := ⟨w.heap.size, 9, none⟩) (v := .slice qa g.2.2.1.length qc) (by simp [go_sem])
        have c10 := cell_later hb (a := ⟨w.heap.size, 10, none⟩) (v := .slice ua g.2.2.2.length uc) (by simp [go_sem])
        have B1 : Hid (Below w.heap.size w w1) := (A1.out _).trans (hb.mono (by simp))
        clear hb
        by_cases hZ2 : ftEq g zft = true
        · rw [hZ2]
          have HZ2 := Lib.hid hZ2
          clear hZ2
          go_wp2_with fail
          refine (FO.out _ (B1.out)).mono ?_
          rintro e w2 ⟨rfl, hb⟩
          replace c0 := cell_later hb c0
          replace c1 := cell_later hb c1
          replace c2 := cell_later hb c2
          replace c3 := cell_later hb c3
          replace c4 := cell_later hb c4
          replace c5 := cell_later hb c5
          replace c6 := cell_later hb c6
          replace c7 := cell_later hb c7
          replace c8 := cell_later hb c8
          replace c9 := cell_later hb c9
          replace c10 := cell_later hb c10
          have B2 : Hid (Below w.heap.size w w2) := B1.out.trans (hb.mono B1.out.size)
          clear hb
          by_cases hO1 : ftGood f = true
          · rw [hO1]
            have HO1 := Lib.hid hO1
            clear hO1
            by_cases hI1 : f.1 = i
            · rw [decide_eq_true hI1] at e1
              have HI1 : Hid (decide (f.1 = i) = true) := decide_eq_true hI1
              clear hI1
              go_wp2
              go_ret
              exact ⟨by simp [chOk, sideGood, turns, HW.out, HZ2.out, HO1.out, HI1.out], B2.out⟩
            · rw [decide_eq_false hI1] at e1
              have HI1 : Hid (decide (f.1 = i) = false) := decide_eq_false hI1
              clear hI1
              go_wp2
              go_ret
              exact ⟨by simp [chOk, sideGood, turns, HW.out, HZ2.out, HO1.out, HI1.out], B2.out⟩
          · have hO1' : ftGood f = false := by simpa using hO1
            rw [hO1']
            have HO1 := Lib.hid hO1'
            clear hO1 hO1'
            go_wp2
            go_ret
            exact ⟨by simp [chOk, sideGood, turns, HW.out, HZ2.out, HO1.out], B2.out⟩
        · have hZ2' : ftEq g zft = false := by simpa using hZ2
          rw [hZ2']
          have HZ2 := Lib.hid hZ2'
          clear hZ2 hZ2'
          go_wp2
          go_ret
          exact ⟨by simp [chOk, sideGood, turns, HW.out, HZ2.out], B1.out⟩
      · have hW' : wordOk i = false := by simpa using hW
        rw [hW']
        have HW := Lib.hid hW'
        clear hW hW'
        go_wp2
        go_ret
        exact ⟨by simp [chOk, sideGood, turns, HW.out], A1.out _⟩
    · go_enter Tryz.func72, Tryz.ntmps72
      go_wp2_with fail
      refine (specWordOk_any _ _ li).mono ?_
      rintro e w0 ⟨rfl, rfl⟩
      by_cases hW : wordOk i = true
      · rw [hW]
        have HW := Lib.hid hW
        clear hW
        go_wp2_with fail
        refine (FG.out _ (A1.out _)).mono ?_
        rintro e w1 ⟨rfl, hb⟩
        have c0 := cell_later hb (a := ⟨w.heap.size, 0, none⟩) (v := .string i) (by simp [go_sem])
        have c1 := cell_later hb (a := ⟨w.heap.size, 1, none⟩) (v := .bool true) (by simp [go_sem])
        have c2 := cell_later hb (a := ⟨w.heap.size, 2, none⟩) (v := .string f.1) (by simp [go_sem])
        have c3 := cell_later hb (a := ⟨w.heap.size, 3, none⟩) (v := .int .i64 f.2.1) (by simp [go_sem])
        have c4 := cell_later hb (a := ⟨w.heap.size, 4, none⟩) (v := .slice pa f.2.2.1.length pc) (by simp [go_sem])
        have c5 := cell_later hb (a := ⟨w.heap.size, 5, none⟩) (v := .slice ta f.2.2.2.length tc) (by simp [go_sem])
        have c6 := cell_later hb (a := ⟨w.heap.size, 6, none⟩) (v := .bool true) (by simp [go_sem])
        have c7 := cell_later hb (a := ⟨w.heap.size, 7, none⟩) (v := .string g.1) (by simp [go_sem])
        have c8 := cell_later hb (a := ⟨w.heap.size, 8, none⟩) (v := .int .i64 g.2.1) (by simp [go_sem])
        have c9 := cell_later hb (a := ⟨w.heap.size, 9, none⟩) (v := .slice qa g.2.2.1.length qc) (by simp [go_sem])
        have c10 := cell_later hb (a := ⟨w.heap.size, 10, none⟩) (v := .slice ua g.2.2.2.length uc) (by simp [go_sem])
        have B1 : Hid (Below w.heap.size w w1) := (A1.out _).trans (hb.mono (by simp))
        clear hb
        by_cases hE : ftEq f g = true
        · rw [hE]
          have HE := Lib.hid hE
          clear hE
          go_wp2
          go_ret
          exact ⟨by simp [chOk, sideGood, turns, HW.out, HE.out], B1.out⟩
        · have hE' : ftEq f g = false := by simpa using hE
          rw [hE']
          have HE := Lib.hid hE'
          clear hE hE'
          go_wp2_with fail
          refine (FO.out _ (B1.out)).mono ?_
          rintro e w2 ⟨rfl, hb⟩
          replace c0 := cell_later hb c0
          replace c1 := cell_later hb c1
          replace c2 := cell_later hb c2
          replace c3 := cell_later hb c3
          replace c4 := cell_later hb c4
          replace c5 := cell_later hb c5
          replace c6 := cell_later hb c6
          replace c7 := cell_later hb c7
          replace c8 := cell_later hb c8
          replace c9 := cell_later hb c9
          replace c10 := cell_later hb c10
          have B2 : Hid (Below w.heap.size w w2) := B1.out.trans (hb.mono B1.out.size)
          clear hb
          by_cases hO1 : ftGood f = true
          · rw [hO1]
            have HO1 := Lib.hid hO1
            clear hO1
            by_cases hI1 : f.1 = i
            · rw [decide_eq_true hI1] at e1
              have HI1 : Hid (decide (f.1 = i) = true) := decide_eq_true hI1
              clear hI1
              go_wp2_with fail
              refine (GO.out _ (B2.out)).mono ?_
              rintro e w3 ⟨rfl, hb⟩
              replace c0 := cell_later hb c0
              replace c1 := cell_later hb c1
              replace c2 := cell_later hb c2
              replace c3 := cell_later hb c3
              replace c4 := cell_later hb c4
              replace c5 := cell_later hb c5
              replace c6 := cell_later hb c6
              replace c7 := cell_later hb c7
              replace c8 := cell_later hb c8
              replace c9 := cell_later hb c9
              replace c10 := cell_later hb c10
              have B3 : Hid (Below w.heap.size w w3) := B2.out.trans (hb.mono B2.out.size)
              clear hb
              by_cases hO2 : ftGood g = true
              · rw [hO2]
                have HO2 := Lib.hid hO2
                clear hO2
                by_cases hI2 : g.1 = i
                · rw [decide_eq_true hI2] at e2
                  have HI2 : Hid (decide (g.1 = i) = true) := decide_eq_true hI2
                  clear hI2
                  go_wp2
                  go_ret
                  exact ⟨by simp [chOk, sideGood, turns, HW.out, HE.out, HO1.out, HI1.out, HO2.out, HI2.out], B3.out⟩
                · rw [decide_eq_false hI2] at e2
                  have HI2 : Hid (decide (g.1 = i) = false) := decide_eq_false hI2
                  clear hI2
                  go_wp2
                  go_ret
                  exact ⟨by simp [chOk, sideGood, turns, HW.out, HE.out, HO1.out, HI1.out, HO2.out, HI2.out], B3.out⟩
              · have hO2' : ftGood g = false := by simpa using hO2
                rw [hO2']
                have HO2 := Lib.hid hO2'
                clear hO2 hO2'
                go_wp2
                go_ret
                exact ⟨by simp [chOk, sideGood, turns, HW.out, HE.out, HO1.out, HI1.out, HO2.out], B3.out⟩
            · rw [decide_eq_false hI1] at e1
              have HI1 : Hid (decide (f.1 = i) = false) := decide_eq_false hI1
              clear hI1
              go_wp2
              go_ret
              exact ⟨by simp [chOk, sideGood, turns, HW.out, HE.out, HO1.out, HI1.out], B2.out⟩
          · have hO1' : ftGood f = false := by simpa using hO1
            rw [hO1']
            have HO1 := Lib.hid hO1'
            clear hO1 hO1'
            go_wp2
            go_ret
            exact ⟨by simp [chOk, sideGood, turns, HW.out, HE.out, HO1.out], B2.out⟩
      · have hW' : wordOk i = false := by simpa using hW
        rw [hW']
        have HW := Lib.hid hW'
        clear hW hW'
        go_wp2
        go_ret
        exact ⟨by simp [chOk, sideGood, turns, HW.out], A1.out _⟩
end Go.Proofs.YtelimcknhaflfaaGreat
