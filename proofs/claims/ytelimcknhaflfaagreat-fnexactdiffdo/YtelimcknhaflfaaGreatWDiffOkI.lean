/- Proved here: the program asks whether one side of a change, a change, and a list of changes are right as the plain definitions 'sideGood', 'chOk', 'diffOk' say; lists of at most 1,048,576. -/
import Derived.Test.YtelimcknhaflfaaGreatWDiffOkS
namespace Go.Proofs.YtelimcknhaflfaaGreat
set_option linter.unusedVariables false
open Go.ChangeShapes Go.WideShapes Go.ChangeAt Go.RowKit

set_option maxRecDepth 100000 in
set_option maxHeartbeats 4000000 in
theorem sideOk_any (i : ByteArray) (h : Bool) (f : Ft) (pa : Option Addr) (pc : Nat) (ta : Option Addr) (tc : Nat) (w : World) (hp : PtsAt w pa f.2.2.1) (ht : TagsAt w ta f.2.2.2) (lf : FtLen f 1048576) :
    Calls Tryz.prog 97 #[.string i, .bool h, .agg #[.string f.1, .int .i64 f.2.1, .slice pa f.2.2.1.length pc, .slice ta f.2.2.2.length tc]] w fun e w' => e = .returned (.bool (sideGood i h f)) ∧ Below w.heap.size w w' := by
  have HP := Lib.hid hp
  have HT := Lib.hid ht
  have LF := Lib.hid lf
  obtain ⟨lf1, lf2, lf3, lf4⟩ := lf
  clear hp ht lf4
  have A1 : Hid (∀ o, Below w.heap.size w (w.alloc o)) := fun o => (Below.refl _ _).alloc (Nat.le_refl _) _
  have FZ : Hid (∀ u, Below w.heap.size w u → Calls Tryz.prog 74 #[.agg #[.string f.1, .int .i64 f.2.1, .slice pa f.2.2.1.length pc, .slice ta f.2.2.2.length tc], .agg #[.string ⟨#[]⟩, .int .i64 0, .slice none 0 0, .slice none 0 0]] u fun e w' => e = .returned (.bool (ftEq f zft)) ∧ Below u.heap.size u w') := fun u hu => by
    have := implFeatSame_any f.1 .empty f.2.1 0 pa none pc 0 f.2.2.1 [] ta none tc 0 f.2.2.2 [] u (HP.out.below hu) (PtsAt.nil _ _) (HT.out.below hu) (TagsAt.nil _ _) (by omega) (by simp) (by omega) (by simp)
    rw [show featEq f.1 .empty f.2.1 0 f.2.2.1 [] f.2.2.2 [] = ftEq f zft from featEq_ft f zft] at this
    exact this
  have FO : Hid (∀ u, Below w.heap.size w u → Calls Tryz.prog 64 #[.agg #[.string f.1, .int .i64 f.2.1, .slice pa f.2.2.1.length pc, .slice ta f.2.2.2.length tc]] u fun e w' => e = .returned (.bool (ftGood f)) ∧ Below u.heap.size u w') := fun u hu =>
    implFeatOk_any _ _ _ _ _ _ _ _ _ (HP.out.below hu) (HT.out.below hu) (by omega) (by omega) (by omega) LF.out.2.2.2
  clear HP HT LF
  have e1 := bytes_beq f.1 i
  cases h
  · go_enter Tryz.func97, Tryz.ntmps97
    go_wp2_with fail
    first | refine (FZ.out _ (A1.out _)).mono ?_ | refine (FZ.out _ (Below.refl _ _)).mono ?_
    rintro e w1 ⟨rfl, hb⟩
    first | have B1 : Hid (Below w.heap.size w w1) := (A1.out _).trans (hb.mono (by simp)) | have B1 : Hid (Below w.heap.size w w1) := hb
    clear hb
    go_wp2
    go_ret
    exact ⟨by simp [sideGood], B1.out⟩
  · go_enter Tryz.func97, Tryz.ntmps97
    go_wp2_with fail
    refine (FO.out _ (A1.out _)).mono ?_
    rintro e w1 ⟨rfl, hb⟩
    have c0 := cell_later hb (a := ⟨w.heap.size, 0, none⟩) (v := .string f.1) (by simp [go_sem])
    have B1 : Hid (Below w.heap.size w w1) := (A1.out _).trans (hb.mono (by simp))
    clear hb
    by_cases hO : ftGood f = true
    · rw [hO]
      by_cases hI : f.1 = i
      · rw [decide_eq_true hI] at e1
        go_wp2
        go_ret
        exact ⟨by simp [sideGood, hO, hI], B1.out⟩
      · rw [decide_eq_false hI] at e1
        go_wp2
        go_ret
        exact ⟨by simp [sideGood, hO, hI], B1.out⟩
    · have hO' : ftGood f = false := by simpa using hO
      rw [hO']
      go_wp2
      go_ret
      exact ⟨by simp [sideGood, hO'], B1.out⟩

set_option maxRecDepth 100000 in
set_option maxHeartbeats 4000000 in
theorem turnsSomething_any (i : ByteArray) (h : Bool) (f : Ft) (s : Bool) (g : Ft) (pa : Option Addr) (pc : Nat) (ta : Option Addr) (tc : Nat) (qa : Option Addr) (qc : Nat) (ua : Option Addr) (uc : Nat) (w : World) (hp : PtsAt w pa f.2.2.1) (ht : TagsAt w ta f.2.2.2) (hq : PtsAt w qa g.2.2.1) (hu : TagsAt w ua g.2.2.2) (m1 : f.2.2.1.length ≤ 1048576) (m2 : f.2.2.2.length ≤ 1048576) (m3 : g.2.2.1.length ≤ 1048576) (m4 : g.2.2.2.length ≤ 1048576) :
    Calls Tryz.prog 69 #[.agg #[.string i, .bool h, .string f.1, .int .i64 f.2.1, .slice pa f.2.2.1.length pc, .slice ta f.2.2.2.length tc, .bool s, .string g.1, .int .i64 g.2.1, .slice qa g.2.2.1.length qc, .slice ua g.2.2.2.length uc]] w fun e w' => e = .returned (.bool (turns h f s g)) ∧ Below w.heap.size w w' := by
  have A1 : Hid (∀ o, Below w.heap.size w (w.alloc o)) := fun o => (Below.refl _ _).alloc (Nat.le_refl _) _
  have FG : Hid (∀ u, Below w.heap.size w u → Calls Tryz.prog 74 #[.agg #[.string f.1, .int .i64 f.2.1, .slice pa f.2.2.1.length pc, .slice ta f.2.2.2.length tc], .agg #[.string g.1, .int .i64 g.2.1, .slice qa g.2.2.1.length qc, .slice ua g.2.2.2.length uc]] u fun e w' => e = .returned (.bool (ftEq f g)) ∧ Below u.heap.size u w') := fun u hu' => by
    have := implFeatSame_any f.1 g.1 f.2.1 g.2.1 pa qa pc qc f.2.2.1 g.2.2.1 ta ua tc uc f.2.2.2 g.2.2.2 u (hp.below hu') (hq.below hu') (ht.below hu') (hu.below hu') (by omega) (by omega) (by omega) (by omega)
    rwa [featEq_ft] at this
  clear hp ht hq hu

  cases h
  · cases s
    · go_enter Tryz.func69, Tryz.ntmps69
      go_wp2_with fail
      refine (FG.out _ (A1.out _)).mono ?_
      rintro e w1 ⟨rfl, hb⟩
      have B1 : Hid (Below w.heap.size w w1) := (A1.out _).trans (hb.mono (by simp))
      clear hb
      go_wp2
      go_ret
      exact ⟨by simp [turns], B1.out⟩
    · go_enter Tryz.func69, Tryz.ntmps69
      go_wp2
      go_ret
      exact ⟨by simp [turns], A1.out _⟩
  · cases s
    · go_enter Tryz.func69, Tryz.ntmps69
      go_wp2
      go_ret
      exact ⟨by simp [turns], A1.out _⟩
    · go_enter Tryz.func69, Tryz.ntmps69
      go_wp2_with fail
      refine (FG.out _ (A1.out _)).mono ?_
      rintro e w1 ⟨rfl, hb⟩
      have B1 : Hid (Below w.heap.size w w1) := (A1.out _).trans (hb.mono (by simp))
      clear hb
      go_wp2
      go_ret
      exact ⟨by simp [turns], B1.out⟩

set_option maxRecDepth 100000 in
set_option maxHeartbeats 8000000 in
theorem changeOk_any (i : ByteArray) (h : Bool) (f : Ft) (s : Bool) (g : Ft) (pa : Option Addr) (pc : Nat) (ta : Option Addr) (tc : Nat) (qa : Option Addr) (qc : Nat) (ua : Option Addr) (uc : Nat) (w : World) (hp : PtsAt w pa f.2.2.1) (ht : TagsAt w ta f.2.2.2) (hq : PtsAt w qa g.2.2.1) (hu : TagsAt w ua g.2.2.2) (li : i.size ≤ 1048576) (lf : FtLen f 1048576) (lg : FtLen g 1048576) :
    Calls Tryz.prog 73 #[.agg #[.string i, .bool h, .string f.1, .int .i64 f.2.1, .slice pa f.2.2.1.length pc, .slice ta f.2.2.2.length tc, .bool s, .string g.1, .int .i64 g.2.1, .slice qa g.2.2.1.length qc, .slice ua g.2.2.2.length uc]] w fun e w' => e = .returned (.bool (chOk i h f s g)) ∧ Below w.heap.size w w' := by
  have HP := Lib.hid hp
  have HT := Lib.hid ht
  have HQ := Lib.hid hq
  have HU := Lib.hid hu
  have LF := Lib.hid lf
  have LG := Lib.hid lg
  clear hp ht hq hu lf lg
  have A1 : Hid (∀ o, Below w.heap.size w (w.alloc o)) := fun o => (Below.refl _ _).alloc (Nat.le_refl _) _
  go_enter Tryz.func73, Tryz.ntmps73
  go_wp2_with fail
  refine (implWordOk_any _ _ li).mono ?_
  rintro e w1 ⟨rfl, hb⟩
  have c0 := cell_later hb (a := ⟨w.heap.size, 0, none⟩) (v := .string i) (by simp [go_sem])
  have c1 := cell_later hb (a := ⟨w.heap.size, 1, none⟩) (v := .bool h) (by simp [go_sem])
  have c2 := cell_later hb (a := ⟨w.heap.size, 2, none⟩) (v := .string f.1) (by simp [go_sem])
  have c3 := cell_later hb (a := ⟨w.heap.size, 3, none⟩) (v := .int .i64 f.2.1) (by simp [go_sem])
  have c4 := cell_later hb (a := ⟨w.heap.size, 4, none⟩) (v := .slice pa f.2.2.1.length pc) (by simp [go_sem])
  have c5 := cell_later hb (a := ⟨w.heap.size, 5, none⟩) (v := .slice ta f.2.2.2.length tc) (by simp [go_sem])
  have c6 := cell_later hb (a := ⟨w.heap.size, 6, none⟩) (v := .bool s) (by simp [go_sem])
  have c7 := cell_later hb (a := ⟨w.heap.size, 7, none⟩) (v := .string g.1) (by simp [go_sem])
  have c8 := cell_later hb (a := ⟨w.heap.size, 8, none⟩) (v := .int .i64 g.2.1) (by simp [go_sem])
  have c9 := cell_later hb (a := ⟨w.heap.size, 9, none⟩) (v := .slice qa g.2.2.1.length qc) (by simp [go_sem])
  have c10 := cell_later hb (a := ⟨w.heap.size, 10, none⟩) (v := .slice ua g.2.2.2.length uc) (by simp [go_sem])
  have B1 : Hid (Below w.heap.size w w1) := (A1.out _).trans (hb.mono (by simp))
  clear hb
  by_cases hW : wordOk i = true
  · rw [hW]
    go_wp2_with fail
    refine (sideOk_any _ _ _ _ _ _ _ _ (HP.out.below B1.out) (HT.out.below B1.out) LF.out).mono ?_
    rintro e w2 ⟨rfl, hb⟩
    replace c0 := cell_later hb c0
    replace c1 := cell_later hb c1
    replace c2 := cell_later hb c2
    replace c3 := cell_later hb c3
    replace c4 := cell_later hb c4
    replace c5 := cell_later hb c5
    replace c6 := cell_later hb c6
    replace c7 := cell_later hb c7
    replace c8 := cell_later hb c8
    replace c9 := cell_later hb c9
    replace c10 := cell_later hb c10
    have B2 : Hid (Below w.heap.size w w2) := B1.out.trans (hb.mono B1.out.size)
    clear hb
    by_cases hS1 : sideGood i h f = true
    · rw [hS1]
      go_wp2_with fail
      refine (sideOk_any _ _ _ _ _ _ _ _ (HQ.out.below B2.out) (HU.out.below B2.out) LG.out).mono ?_
      rintro e w3 ⟨rfl, hb⟩
      replace c0 := cell_later hb c0
      replace c1 := cell_later hb c1
      replace c2 := cell_later hb c2
      replace c3 := cell_later hb c3
      replace c4 := cell_later hb c4
      replace c5 := cell_later hb c5
      replace c6 := cell_later hb c6
      replace c7 := cell_later hb c7
      replace c8 := cell_later hb c8
      replace c9 := cell_later hb c9
      replace c10 := cell_later hb c10
      have B3 : Hid (Below w.heap.size w w3) := B2.out.trans (hb.mono B2.out.size)
      clear hb
      by_cases hS2 : sideGood i s g = true
      · rw [hS2]
        go_wp2_with fail
        refine (turnsSomething_any _ _ _ _ _ _ _ _ _ _ _ _ _ _ (HP.out.below B3.out) (HT.out.below B3.out) (HQ.out.below B3.out) (HU.out.below B3.out) (by have := LF.out.2.1; omega) (by have := LF.out.2.2.1; omega) (by have := LG.out.2.1; omega) (by have := LG.out.2.2.1; omega)).mono ?_
        rintro e w4 ⟨rfl, hb⟩
        replace c0 := cell_later hb c0
        replace c1 := cell_later hb c1
        replace c2 := cell_later hb c2
        replace c3 := cell_later hb c3
        replace c4 := cell_later hb c4
        replace c5 := cell_later hb c5
        replace c6 := cell_later hb c6
        replace c7 := cell_later hb c7
        replace c8 := cell_later hb c8
        replace c9 := cell_later hb c9
        replace c10 := cell_later hb c10
        have B4 : Hid (Below w.heap.size w w4) := B3.out.trans (hb.mono B3.out.size)
        clear hb
        clear c0 c1 c2 c3 c4 c5 c6 c7 c8 c9 c10
        go_wp2
        go_ret
        exact ⟨by simp [chOk, hW, hS1, hS2], B4.out⟩
      · have hS2' : sideGood i s g = false := by simpa using hS2
        rw [hS2']
        clear c0 c1 c2 c3 c4 c5 c6 c7 c8 c9 c10
        go_wp2
        go_ret
        exact ⟨by simp [chOk, hW, hS1, hS2'], B3.out⟩
    · have hS1' : sideGood i h f = false := by simpa using hS1
      rw [hS1']
      clear c0 c1 c2 c3 c4 c5 c6 c7 c8 c9 c10
      go_wp2
      go_ret
      exact ⟨by simp [chOk, hW, hS1'], B2.out⟩
  · have hW' : wordOk i = false := by simpa using hW
    rw [hW']
    clear c0 c1 c2 c3 c4 c5 c6 c7 c8 c9 c10
    go_wp2
    go_ret
    exact ⟨by simp [chOk, hW'], B1.out⟩

set_option maxRecDepth 100000 in
set_option maxHeartbeats 8000000 in
theorem implDiffOk_any (a : Option Addr) (cap : Nat) (ds : List Ch) (w : World) (hp : ChangesAt w a ds) (hl : ds.length ≤ 1048576) (ht : ChLen ds 1048576) :
    Calls Tryz.prog 46 #[.slice a ds.length cap] w fun e w' => e = .returned (.bool (diffOk ds)) ∧ Below w.heap.size w w' := by
  have HP := Lib.hid hp
  have HL := Lib.hid ht
  clear hp ht
  by_cases h16 : ds.length ≤ 16
  · go_enter Tryz.func46, Tryz.ntmps46
    go_wp2
    go_loopw [3, 4, 10] (fun _ _ i wr => ∃ k : Nat, k ≤ ds.length ∧ i = .int .i64 k ∧ Below w.heap.size w wr ∧ ∀ j, j < k → chGood ds j = true) (fun _ _ i _ => ds.length - (intOf i).toNat)
    case atStart => exact ⟨0, Nat.zero_le _, rfl, Below.refl _ _, fun j h => absurd h (Nat.not_lt_zero _)⟩
    case round =>
      obtain ⟨k, hk, rfl, hbel, hall⟩ := hrel
      have HA := Lib.hid hall
      have HB := Lib.hid hbel
      have hsz := hbel.size
      clear hall
      by_cases hlt : k < ds.length
      · obtain ⟨b, off, pa, pc, ta, tc, qa, qc, ua, uc, rfl, hx⟩ := HP.out k hlt
        obtain ⟨hb, c0, c1, c2, c3, c4, c5, c6, c7, c8, c9, c10, hpp, htt, hqq, huu⟩ := hx.below hbel
        have hb0 := hx.lt
        clear hx
        obtain ⟨l1, l2, l3⟩ := HL.out k hlt
        have D1 := Lib.hid hpp
        have D2 := Lib.hid htt
        have D3 := Lib.hid hqq
        have D4 := Lib.hid huu
        have L2 := Lib.hid l2
        have L3 := Lib.hid l3
        clear hbel hpp htt hqq huu l2 l3
        have B0 : Hid (∀ u, Below wr.heap.size wr u → Calls Tryz.prog 73 #[.agg #[.string (cid ds k), .bool (chd ds k), .string (cwf ds k).1, .int .i64 (cwf ds k).2.1, .slice pa (cwf ds k).2.2.1.length pc, .slice ta (cwf ds k).2.2.2.length tc, .bool (chs ds k), .string (cnf ds k).1, .int .i64 (cnf ds k).2.1, .slice qa (cnf ds k).2.2.1.length qc, .slice ua (cnf ds k).2.2.2.length uc]] u fun e w' => e = .returned (.bool (chOkAt ds k)) ∧ Below u.heap.size u w') := fun u hu =>
          changeOk_any _ _ _ _ _ _ _ _ _ _ _ _ _ _ (D1.out.below hu) (D2.out.below hu) (D3.out.below hu) (D4.out.below hu) (by omega) L2.out L3.out
        clear D1 D2 D3 D4 L2 L3
        have A0 : Hid (∀ o, Below wr.heap.size wr (wr.alloc o)) := fun o => (Below.refl _ _).alloc (Nat.le_refl _) _
        by_cases hx : chOkAt ds k = true
        · by_cases h0 : k = 0
          · subst h0
            simp only [Nat.zero_mul, Nat.add_zero] at c0 c1 c2 c3 c4 c5 c6 c7 c8 c9 c10
            have HS : Hid (chGood ds 0 = true) := by simp [Hid, chGood, hx]
            have HC := B0
            rw [hx] at HC
            clear B0 hx
            go_wp2
            generalize hwo : wr.alloc _ = wo
            have BO : Hid (Below wr.heap.size wr wo) := by rw [← hwo]; exact A0.out _
            have q0 : ∀ x : Kept wo, x.1.cell? ⟨wr.heap.size, 0, none⟩ = some (.string (cid ds 0)) := fun x => x.cell (by rw [← hwo]; simp [go_sem])
            have q1 : ∀ x : Kept wo, x.1.cell? ⟨wr.heap.size, 1, none⟩ = some (.bool (chd ds 0)) := fun x => x.cell (by rw [← hwo]; simp [go_sem])
            have q2 : ∀ x : Kept wo, x.1.cell? ⟨wr.heap.size, 2, none⟩ = some (.string (cwf ds 0).1) := fun x => x.cell (by rw [← hwo]; simp [go_sem])
            have q3 : ∀ x : Kept wo, x.1.cell? ⟨wr.heap.size, 3, none⟩ = some (.int .i64 (cwf ds 0).2.1) := fun x => x.cell (by rw [← hwo]; simp [go_sem])
            have q4 : ∀ x : Kept wo, x.1.cell? ⟨wr.heap.size, 4, none⟩ = some (.slice pa (cwf ds 0).2.2.1.length pc) := fun x => x.cell (by rw [← hwo]; simp [go_sem])
            have q5 : ∀ x : Kept wo, x.1.cell? ⟨wr.heap.size, 5, none⟩ = some (.slice ta (cwf ds 0).2.2.2.length tc) := fun x => x.cell (by rw [← hwo]; simp [go_sem])
            have q6 : ∀ x : Kept wo, x.1.cell? ⟨wr.heap.size, 6, none⟩ = some (.bool (chs ds 0)) := fun x => x.cell (by rw [← hwo]; simp [go_sem])
            have q7 : ∀ x : Kept wo, x.1.cell? ⟨wr.heap.size, 7, none⟩ = some (.string (cnf ds 0).1) := fun x => x.cell (by rw [← hwo]; simp [go_sem])
            have q8 : ∀ x : Kept wo, x.1.cell? ⟨wr.heap.size, 8, none⟩ = some (.int .i64 (cnf ds 0).2.1) := fun x => x.cell (by rw [← hwo]; simp [go_sem])
            have q9 : ∀ x : Kept wo, x.1.cell? ⟨wr.heap.size, 9, none⟩ = some (.slice qa (cnf ds 0).2.2.1.length qc) := fun x => x.cell (by rw [← hwo]; simp [go_sem])
            have q10 : ∀ x : Kept wo, x.1.cell? ⟨wr.heap.size, 10, none⟩ = some (.slice ua (cnf ds 0).2.2.2.length uc) := fun x => x.cell (by rw [← hwo]; simp [go_sem])
            clear c0 c1 c2 c3 c4 c5 c6 c7 c8 c9 c10 hwo
            have HC2 := Lib.hid (fun u (hu : Below wo.heap.size wo u) => HC.out u (BO.out.trans (hu.mono BO.out.size)))
            refine wp_region_kept (by kernel_rfl) (by kernel_rfl) ?_
            repeat (go_big_quiet_step (exact Kept.calls _ (HC2.out _ (Subtype.property _))))
            refine wpQuiet_nil ?_
            rintro wn ⟨x, e⟩
            have hbn : Below wo.heap.size wo wn := by rw [e]; exact x.2
            clear e x
            have B : Hid (Below w.heap.size w wn) := HB.out.trans ((BO.out.mono hsz).trans (hbn.mono (Nat.le_trans hsz BO.out.size)))
            clear hbn q0 q1 q2 q3 q4 q5 q6 q7 q8 q9 q10
            go_wp2
            go_roundw
            case rel => exact ⟨1, by omega, by go_num, B.out, fun i hi => by obtain rfl : i = 0 := (by omega); exact HS.out⟩
            case measure => simp [intOf]; omega
          · obtain ⟨b', off', _, _, _, _, _, _, _, _, he, hy⟩ := HP.out (k - 1) (by omega)
            obtain ⟨rfl, rfl⟩ : b = b' ∧ off = off' := by simpa using he
            clear he
            have d0 := (hy.below HB.out).c0
            clear hy
            obtain ⟨j, rfl⟩ : ∃ j, k = j + 1 := ⟨k - 1, by omega⟩
            simp only [Nat.add_sub_cancel] at d0
            have hg : decide ((0 : Int) < ((j + 1 : Nat) : Int)) = true := by simp
            have hw1 : IntKind.i64.wrap (((j + 1 : Nat) : Int) - 1) = (j : Int) := by rw [IntWalk.i64_in _ (by omega)]; omega
            have HC := B0
            rw [hx] at HC
            clear B0
            by_cases hq : cb ds (j + 1) < cb ds j
            · have HS : Hid (chGood ds (j + 1) = false) := by
                have : cb ds (j + 1) ≤ cb ds j := List.le_of_lt hq
                simp [Hid, chGood, this]
              have e1 := less_of hq
              have e3 := less_not (List.lt_asymm hq)
              clear hq hx
              go_wp2
              generalize hwo : wr.alloc _ = wo
              have BO : Hid (Below wr.heap.size wr wo) := by rw [← hwo]; exact A0.out _
              have q0 : ∀ x : Kept wo, x.1.cell? ⟨wr.heap.size, 0, none⟩ = some (.string (cid ds (j + 1))) := fun x => x.cell (by rw [← hwo]; simp [go_sem])
              have q1 : ∀ x : Kept wo, x.1.cell? ⟨wr.heap.size, 1, none⟩ = some (.bool (chd ds (j + 1))) := fun x => x.cell (by rw [← hwo]; simp [go_sem])
              have q2 : ∀ x : Kept wo, x.1.cell? ⟨wr.heap.size, 2, none⟩ = some (.string (cwf ds (j + 1)).1) := fun x => x.cell (by rw [← hwo]; simp [go_sem])
              have q3 : ∀ x : Kept wo, x.1.cell? ⟨wr.heap.size, 3, none⟩ = some (.int .i64 (cwf ds (j + 1)).2.1) := fun x => x.cell (by rw [← hwo]; simp [go_sem])
              have q4 : ∀ x : Kept wo, x.1.cell? ⟨wr.heap.size, 4, none⟩ = some (.slice pa (cwf ds (j + 1)).2.2.1.length pc) := fun x => x.cell (by rw [← hwo]; simp [go_sem])
              have q5 : ∀ x : Kept wo, x.1.cell? ⟨wr.heap.size, 5, none⟩ = some (.slice ta (cwf ds (j + 1)).2.2.2.length tc) := fun x => x.cell (by rw [← hwo]; simp [go_sem])
              have q6 : ∀ x : Kept wo, x.1.cell? ⟨wr.heap.size, 6, none⟩ = some (.bool (chs ds (j + 1))) := fun x => x.cell (by rw [← hwo]; simp [go_sem])
              have q7 : ∀ x : Kept wo, x.1.cell? ⟨wr.heap.size, 7, none⟩ = some (.string (cnf ds (j + 1)).1) := fun x => x.cell (by rw [← hwo]; simp [go_sem])
              have q8 : ∀ x : Kept wo, x.1.cell? ⟨wr.heap.size, 8, none⟩ = some (.int .i64 (cnf ds (j + 1)).2.1) := fun x => x.cell (by rw [← hwo]; simp [go_sem])
              have q9 : ∀ x : Kept wo, x.1.cell? ⟨wr.heap.size, 9, none⟩ = some (.slice qa (cnf ds (j + 1)).2.2.1.length qc) := fun x => x.cell (by rw [← hwo]; simp [go_sem])
              have q10 : ∀ x : Kept wo, x.1.cell? ⟨wr.heap.size, 10, none⟩ = some (.slice ua (cnf ds (j + 1)).2.2.2.length uc) := fun x => x.cell (by rw [← hwo]; simp [go_sem])
              have q11 : ∀ x : Kept wo, x.1.cell? ⟨b, off + j * 11, none⟩ = some (.string (cid ds j)) := fun x => x.cell (cell_later BO.out d0)
              clear d0
              clear c0 c1 c2 c3 c4 c5 c6 c7 c8 c9 c10 hwo
              have HC2 := Lib.hid (fun u (hu : Below wo.heap.size wo u) => HC.out u (BO.out.trans (hu.mono BO.out.size)))
              refine wp_region_kept (by kernel_rfl) (by kernel_rfl) ?_
              repeat (go_big_quiet_step (exact Kept.calls _ (HC2.out _ (Subtype.property _))))
              refine wpQuiet_nil ?_
              rintro wn ⟨x, e⟩
              have hbn : Below wo.heap.size wo wn := by rw [e]; exact x.2
              clear e x
              have B : Hid (Below w.heap.size w wn) := HB.out.trans ((BO.out.mono hsz).trans (hbn.mono (Nat.le_trans hsz BO.out.size)))
              clear hbn q0 q1 q2 q3 q4 q5 q6 q7 q8 q9 q10 q11
              go_wp2
              go_ret
              exact ⟨by rw [diffOk_not hlt HS.out]; rfl, B.out⟩
            · have e1 := less_not hq
              by_cases hr : cb ds (j + 1) = cb ds j
              · have HS : Hid (chGood ds (j + 1) = false) := by
                  have : cb ds (j + 1) ≤ cb ds j := by rw [hr]; exact List.le_refl _
                  simp [Hid, chGood, this]
                have e2 := beq_of hr
                have e4 := beq_of hr.symm
                have e3 := less_not (x := cid ds j) (y := cid ds (j + 1)) (fun h => hq (by have h2 := h; unfold cb at hr; rw [hr] at h2; exact absurd h2 (List.lt_irrefl _)))
                clear hq hr hx
                go_wp2
                generalize hwo : wr.alloc _ = wo
                have BO : Hid (Below wr.heap.size wr wo) := by rw [← hwo]; exact A0.out _
                have q0 : ∀ x : Kept wo, x.1.cell? ⟨wr.heap.size, 0, none⟩ = some (.string (cid ds (j + 1))) := fun x => x.cell (by rw [← hwo]; simp [go_sem])
                have q1 : ∀ x : Kept wo, x.1.cell? ⟨wr.heap.size, 1, none⟩ = some (.bool (chd ds (j + 1))) := fun x => x.cell (by rw [← hwo]; simp [go_sem])
                have q2 : ∀ x : Kept wo, x.1.cell? ⟨wr.heap.size, 2, none⟩ = some (.string (cwf ds (j + 1)).1) := fun x => x.cell (by rw [← hwo]; simp [go_sem])
                have q3 : ∀ x : Kept wo, x.1.cell? ⟨wr.heap.size, 3, none⟩ = some (.int .i64 (cwf ds (j + 1)).2.1) := fun x => x.cell (by rw [← hwo]; simp [go_sem])
                have q4 : ∀ x : Kept wo, x.1.cell? ⟨wr.heap.size, 4, none⟩ = some (.slice pa (cwf ds (j + 1)).2.2.1.length pc) := fun x => x.cell (by rw [← hwo]; simp [go_sem])
                have q5 : ∀ x : Kept wo, x.1.cell? ⟨wr.heap.size, 5, none⟩ = some (.slice ta (cwf ds (j + 1)).2.2.2.length tc) := fun x => x.cell (by rw [← hwo]; simp [go_sem])
                have q6 : ∀ x : Kept wo, x.1.cell? ⟨wr.heap.size, 6, none⟩ = some (.bool (chs ds (j + 1))) := fun x => x.cell (by rw [← hwo]; simp [go_sem])
                have q7 : ∀ x : Kept wo, x.1.cell? ⟨wr.heap.size, 7, none⟩ = some (.string (cnf ds (j + 1)).1) := fun x => x.cell (by rw [← hwo]; simp [go_sem])
                have q8 : ∀ x : Kept wo, x.1.cell? ⟨wr.heap.size, 8, none⟩ = some (.int .i64 (cnf ds (j + 1)).2.1) := fun x => x.cell (by rw [← hwo]; simp [go_sem])
                have q9 : ∀ x : Kept wo, x.1.cell? ⟨wr.heap.size, 9, none⟩ = some (.slice qa (cnf ds (j + 1)).2.2.1.length qc) := fun x => x.cell (by rw [← hwo]; simp [go_sem])
                have q10 : ∀ x : Kept wo, x.1.cell? ⟨wr.heap.size, 10, none⟩ = some (.slice ua (cnf ds (j + 1)).2.2.2.length uc) := fun x => x.cell (by rw [← hwo]; simp [go_sem])
                have q11 : ∀ x : Kept wo, x.1.cell? ⟨b, off + j * 11, none⟩ = some (.string (cid ds j)) := fun x => x.cell (cell_later BO.out d0)
                clear d0
                clear c0 c1 c2 c3 c4 c5 c6 c7 c8 c9 c10 hwo
                have HC2 := Lib.hid (fun u (hu : Below wo.heap.size wo u) => HC.out u (BO.out.trans (hu.mono BO.out.size)))
                refine wp_region_kept (by kernel_rfl) (by kernel_rfl) ?_
                repeat (go_big_quiet_step (exact Kept.calls _ (HC2.out _ (Subtype.property _))))
                refine wpQuiet_nil ?_
                rintro wn ⟨x, e⟩
                have hbn : Below wo.heap.size wo wn := by rw [e]; exact x.2
                clear e x
                have B : Hid (Below w.heap.size w wn) := HB.out.trans ((BO.out.mono hsz).trans (hbn.mono (Nat.le_trans hsz BO.out.size)))
                clear hbn q0 q1 q2 q3 q4 q5 q6 q7 q8 q9 q10 q11
                go_wp2
                go_ret
                exact ⟨by rw [diffOk_not hlt HS.out]; rfl, B.out⟩
              · have HS : Hid (chGood ds (j + 1) = true) := by
                  have : ¬ cb ds (j + 1) ≤ cb ds j := fun h => hq (lt_of_le_ne h (fun e => hr e.symm))
                  simp [Hid, chGood, hx, this]
                have e2 := beq_not hr
                have e4 := beq_not (fun e => hr e.symm)
                have e3 : Op.bytesLess (cid ds j).toList (cid ds (j + 1)).toList = true := less_of (lt_of_le_ne hq hr)
                clear hq hr hx
                go_wp2
                generalize hwo : wr.alloc _ = wo
                have BO : Hid (Below wr.heap.size wr wo) := by rw [← hwo]; exact A0.out _
                have q0 : ∀ x : Kept wo, x.1.cell? ⟨wr.heap.size, 0, none⟩ = some (.string (cid ds (j + 1))) := fun x => x.cell (by rw [← hwo]; simp [go_sem])
                have q1 : ∀ x : Kept wo, x.1.cell? ⟨wr.heap.size, 1, none⟩ = some (.bool (chd ds (j + 1))) := fun x => x.cell (by rw [← hwo]; simp [go_sem])
                have q2 : ∀ x : Kept wo, x.1.cell? ⟨wr.heap.size, 2, none⟩ = some (.string (cwf ds (j + 1)).1) := fun x => x.cell (by rw [← hwo]; simp [go_sem])
                have q3 : ∀ x : Kept wo, x.1.cell? ⟨wr.heap.size, 3, none⟩ = some (.int .i64 (cwf ds (j + 1)).2.1) := fun x => x.cell (by rw [← hwo]; simp [go_sem])
                have q4 : ∀ x : Kept wo, x.1.cell? ⟨wr.heap.size, 4, none⟩ = some (.slice pa (cwf ds (j + 1)).2.2.1.length pc) := fun x => x.cell (by rw [← hwo]; simp [go_sem])
                have q5 : ∀ x : Kept wo, x.1.cell? ⟨wr.heap.size, 5, none⟩ = some (.slice ta (cwf ds (j + 1)).2.2.2.length tc) := fun x => x.cell (by rw [← hwo]; simp [go_sem])
                have q6 : ∀ x : Kept wo, x.1.cell? ⟨wr.heap.size, 6, none⟩ = some (.bool (chs ds (j + 1))) := fun x => x.cell (by rw [← hwo]; simp [go_sem])
                have q7 : ∀ x : Kept wo, x.1.cell? ⟨wr.heap.size, 7, none⟩ = some (.string (cnf ds (j + 1)).1) := fun x => x.cell (by rw [← hwo]; simp [go_sem])
                have q8 : ∀ x : Kept wo, x.1.cell? ⟨wr.heap.size, 8, none⟩ = some (.int .i64 (cnf ds (j + 1)).2.1) := fun x => x.cell (by rw [← hwo]; simp [go_sem])
                have q9 : ∀ x : Kept wo, x.1.cell? ⟨wr.heap.size, 9, none⟩ = some (.slice qa (cnf ds (j + 1)).2.2.1.length qc) := fun x => x.cell (by rw [← hwo]; simp [go_sem])
                have q10 : ∀ x : Kept wo, x.1.cell? ⟨wr.heap.size, 10, none⟩ = some (.slice ua (cnf ds (j + 1)).2.2.2.length uc) := fun x => x.cell (by rw [← hwo]; simp [go_sem])
                have q11 : ∀ x : Kept wo, x.1.cell? ⟨b, off + j * 11, none⟩ = some (.string (cid ds j)) := fun x => x.cell (cell_later BO.out d0)
                clear d0
                clear c0 c1 c2 c3 c4 c5 c6 c7 c8 c9 c10 hwo
                have HC2 := Lib.hid (fun u (hu : Below wo.heap.size wo u) => HC.out u (BO.out.trans (hu.mono BO.out.size)))
                refine wp_region_kept (by kernel_rfl) (by kernel_rfl) ?_
                repeat (go_big_quiet_step (exact Kept.calls _ (HC2.out _ (Subtype.property _))))
                refine wpQuiet_nil ?_
                rintro wn ⟨x, e⟩
                have hbn : Below wo.heap.size wo wn := by rw [e]; exact x.2
                clear e x
                have B : Hid (Below w.heap.size w wn) := HB.out.trans ((BO.out.mono hsz).trans (hbn.mono (Nat.le_trans hsz BO.out.size)))
                clear hbn q0 q1 q2 q3 q4 q5 q6 q7 q8 q9 q10 q11
                go_wp2
                go_roundw
                case rel => exact ⟨j + 1 + 1, by omega, by go_num, B.out, fun i hi => by by_cases e : i = j + 1; (subst e; exact HS.out); exact HA.out i (by omega)⟩
                case measure => simp [intOf]; omega
        · have hx' : chOkAt ds k = false := by simpa using hx
          have HS : Hid (chGood ds k = false) := by simp [Hid, chGood, hx']
          have HC := B0
          rw [hx'] at HC
          clear B0 hx hx'
          go_wp2
          generalize hwo : wr.alloc _ = wo
          have BO : Hid (Below wr.heap.size wr wo) := by rw [← hwo]; exact A0.out _
          have q0 : ∀ x : Kept wo, x.1.cell? ⟨wr.heap.size, 0, none⟩ = some (.string (cid ds k)) := fun x => x.cell (by rw [← hwo]; simp [go_sem])
          have q1 : ∀ x : Kept wo, x.1.cell? ⟨wr.heap.size, 1, none⟩ = some (.bool (chd ds k)) := fun x => x.cell (by rw [← hwo]; simp [go_sem])
          have q2 : ∀ x : Kept wo, x.1.cell? ⟨wr.heap.size, 2, none⟩ = some (.string (cwf ds k).1) := fun x => x.cell (by rw [← hwo]; simp [go_sem])
          have q3 : ∀ x : Kept wo, x.1.cell? ⟨wr.heap.size, 3, none⟩ = some (.int .i64 (cwf ds k).2.1) := fun x => x.cell (by rw [← hwo]; simp [go_sem])
          have q4 : ∀ x : Kept wo, x.1.cell? ⟨wr.heap.size, 4, none⟩ = some (.slice pa (cwf ds k).2.2.1.length pc) := fun x => x.cell (by rw [← hwo]; simp [go_sem])
          have q5 : ∀ x : Kept wo, x.1.cell? ⟨wr.heap.size, 5, none⟩ = some (.slice ta (cwf ds k).2.2.2.length tc) := fun x => x.cell (by rw [← hwo]; simp [go_sem])
          have q6 : ∀ x : Kept wo, x.1.cell? ⟨wr.heap.size, 6, none⟩ = some (.bool (chs ds k)) := fun x => x.cell (by rw [← hwo]; simp [go_sem])
          have q7 : ∀ x : Kept wo, x.1.cell? ⟨wr.heap.size, 7, none⟩ = some (.string (cnf ds k).1) := fun x => x.cell (by rw [← hwo]; simp [go_sem])
          have q8 : ∀ x : Kept wo, x.1.cell? ⟨wr.heap.size, 8, none⟩ = some (.int .i64 (cnf ds k).2.1) := fun x => x.cell (by rw [← hwo]; simp [go_sem])
          have q9 : ∀ x : Kept wo, x.1.cell? ⟨wr.heap.size, 9, none⟩ = some (.slice qa (cnf ds k).2.2.1.length qc) := fun x => x.cell (by rw [← hwo]; simp [go_sem])
          have q10 : ∀ x : Kept wo, x.1.cell? ⟨wr.heap.size, 10, none⟩ = some (.slice ua (cnf ds k).2.2.2.length uc) := fun x => x.cell (by rw [← hwo]; simp [go_sem])
          clear c0 c1 c2 c3 c4 c5 c6 c7 c8 c9 c10 hwo
          have HC2 := Lib.hid (fun u (hu : Below wo.heap.size wo u) => HC.out u (BO.out.trans (hu.mono BO.out.size)))
          refine wp_region_kept (by kernel_rfl) (by kernel_rfl) ?_
          repeat (go_big_quiet_step (exact Kept.calls _ (HC2.out _ (Subtype.property _))))
          refine wpQuiet_nil ?_
          rintro wn ⟨x, e⟩
          have hbn : Below wo.heap.size wo wn := by rw [e]; exact x.2
          clear e x
          have B : Hid (Below w.heap.size w wn) := HB.out.trans ((BO.out.mono hsz).trans (hbn.mono (Nat.le_trans hsz BO.out.size)))
          clear hbn q0 q1 q2 q3 q4 q5 q6 q7 q8 q9 q10
          go_wp2
          go_ret
          exact ⟨by rw [diffOk_not hlt HS.out]; rfl, B.out⟩
      · obtain rfl : k = ds.length := by omega
        have HT := Lib.hid (chsGood_of HA.out)
        clear hbel
        go_wp2
        go_ret
        exact ⟨by unfold diffOk; rw [HT.out]; simp [h16], HB.out⟩
  · go_enter Tryz.func46, Tryz.ntmps46
    go_wp2
    go_ret
    exact ⟨by simp [diffOk, h16], Below.refl _ _⟩
  
end Go.Proofs.YtelimcknhaflfaaGreat
