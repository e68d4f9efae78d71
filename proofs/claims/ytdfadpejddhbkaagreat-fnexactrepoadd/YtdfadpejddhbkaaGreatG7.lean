/- Proved here: the copy of a room, by the program, in memory of its own, its parts apart; at most 1,000 versions and branches of at most 1,048,576 parts. Proved here: what the model's small functions over versions answer: whether what is ahead is right, where a branch is, where a version is; lists of at most 1,048,576. Proved here: the places of branches put into a map, each at its name, the later ones in the place of the earlier; at most 1,048,576 branches. Proved here: what it is that versions and branches are right, and that the model asks just that; lists of at most 1,048,576. Proved here: the program asks for the place of a version as the plain definition says; lists of at most 1,048,576. Proved here: the program asks whether versions and branches are right just as the plain definition says; lists of at most 1,048,576. Proved here: the program asks whether versions and branches are right just as the plain definition says; lists of at most 1,048,576. -/
import Derived.Test.YtdfadpejddhbkaaGreatG6
import Derived.Deep.RegionLaw
import Derived.Test.YtdfadpejddhbkaaGreatG4
import Derived.Test.YtdfadpejddhbkaaGreatG2
import Derived.Test.YtdfadpejddhbkaaGreatWByKey
import Derived.Maps.Views
import Derived.Test.YtdfadpejddhbkaaGreatWSheetOk
import Derived.Test.YtdfadpejddhbkaaGreatWWord
import Derived.Test.YtdfadpejddhbkaaGreatG5
import Derived.Deep.RegionHeld3
import Derived.Deep.DeepCutAuto
namespace Go.Proofs.YtdfadpejddhbkaaGreat
set_option linter.unusedVariables false
open Go.ChangeShapes Go.WideShapes Go.ChangeAt Go.RowKit Go.Deep

/-- what a copy of a room answers -/
def CopyAns (K : World → Cm → PlO → (Nat → Prop) → Prop) (w : World) (cs : List Cm) (hs : List Hd) (e : Ending) (w' : World) : Prop :=
  ∃ cv hv ad S, e = .returned (.agg #[cv, hv]) ∧ Room K w' w.heap.size cv hv cs hs ad S ∧ Below w.heap.size w w'

/-- few versions and branches, and few Up of each -/
structure RpFew (cs : List Cm) (hs : List Hd) : Prop where
  c : cs.length ≤ 1000
  h : hs.length ≤ 1000
  u : ∀ j, j < cs.length → (mg cs j).1.length ≤ 1000

theorem alloc_grown_cell {wr wa : World} {O : Obj} {x : Option Nat} {b o : Nat} {v : Value} (hg : (wr.alloc O).grownBy wa x) (hlt : b < wr.heap.size) (hc : wr.cell? ⟨b, o, none⟩ = some v) (hne : x ≠ some b) : wa.cell? ⟨b, o, none⟩ = some v :=
  (hg.cell_far ⟨b, o, none⟩ (by simp; omega) (Ne.symm hne)).trans ((World.cell?_of_block (w := wr) (Below.heap_alloc _ _ _ hlt)).trans hc)

theorem drew_below (w : World) : Below w.heap.size w w.drew := (Below.refl _ _).drew

set_option maxRecDepth 100000 in
set_option maxHeartbeats 8000000 in
theorem repoCopy_any (a b : Option Addr) (ca cb : Nat) (cs : List Cm) (hs : List Hd) (w : World) (hr : RepoAt w a b cs hs) (hl : RpLen cs hs 1048576) (hf : RpFew cs hs) :
    Calls Tryz.prog 98 #[.agg #[.slice a cs.length ca, .slice b hs.length cb]] w (CopyAns KI w cs hs) := by
  obtain ⟨_, _, l3, _⟩ := hl
  obtain ⟨l1, l2, l4⟩ := hf
  have L4 := Lib.hid l4
  obtain ⟨i0, hi, hz0, hz1, hz2⟩ := info_parts infoCommit
  have HI := Lib.hid hi
  have HZ0 := Lib.hid hz0
  have HZ1 := Lib.hid hz1
  have HZ2 := Lib.hid hz2
  have HC := Lib.hid hr.cms
  have HH := Lib.hid hr.hds
  have L3 := Lib.hid l3
  clear hr l3 l4 hi hz0 hz1 hz2
  have A2 : Hid (∀ o o', Below w.heap.size w ((w.alloc o).alloc o')) := fun o o' => ((Below.refl _ _).alloc (Nat.le_refl _) _).alloc (by simp) _
  go_enter Tryz.func98, Tryz.ntmps98
  go_wp2_with fail
  refine (cloneH_any _ _ _ _ (HH.out.below (A2.out _ _)) (by omega)).mono ?_
  rintro e w1 ⟨⟨hv, rfl, hG⟩, hb1⟩
  obtain ⟨bh, ch, rfl, _, _⟩ := hG.form
  have X1 : Hid (BK w1 w.heap.size #[.slice a cs.length ca, .slice b hs.length cb] 46) := ((BK.new w _ _).alloc _).later hb1
  have X2 : Hid (BK w1 (w.heap.size + 1) #[.slice none 0 0, .slice none 0 0] 46) := (BK.at _ _ _ (by simp)).later hb1
  have B1 : Hid (Below w.heap.size w w1) := (A2.out _ _).trans (hb1.mono (by simp; omega))
  have G1 : Hid (GrowH (w.heap.size + 1 + 1) hs w1 (.slice bh hs.length ch)) := hG.low (by simp)
  have z1 := X2.out.lt
  have z0 := X1.out.lt
  clear hb1 hG HH
  have c0 := X1.out.cell 0 (v := .slice a cs.length ca) rfl
  go_upto_region 2 with (fail)
  have X3 : Hid (BK (w1.alloc (.cells #[.slice none 0 0, .slice bh hs.length ch] 46)) w1.heap.size #[.slice none 0 0, .slice bh hs.length ch] 46) := BK.new _ _ _
  have BA : Hid (Below w1.heap.size w1 (w1.alloc (.cells #[.slice none 0 0, .slice bh hs.length ch] 46))) := (Below.refl _ _).alloc (Nat.le_refl _) _
  go_wp2
  go_loopw [5, 13] (fun _ i wr => ∃ (k : Nat) (cv : Value) (ad : Nat → PlO) (S : Nat → Nat → Prop), k ≤ cs.length ∧ i = .int .i64 k ∧ BK wr w1.heap.size #[cv, .slice bh hs.length ch] 46 ∧ Cms KI wr (w1.heap.size + 1) cv k cs ad S ∧ Below w1.heap.size w1 wr) (fun _ i _ => cs.length - (intOf i).toNat)
  case atStart => exact ⟨0, _, fun _ => (.slice none 0 0, .slice none 0 0, fun _ => ((none, 0), (none, 0))), fun _ _ => False, Nat.zero_le _, rfl, X3.out, Cms.start _ _ _ _ _ _, BA.out⟩
  case round =>
    clear X3 BA
    obtain ⟨k, cv, ad, S, hk, rfl, hbk, hcm, hbel⟩ := hrel
    have KB := Lib.hid hbk
    have CM := Lib.hid hcm
    have HB := Lib.hid hbel
    have hsz := hbel.size
    have zB := hbk.lt
    by_cases hlt : k < cs.length
    · obtain ⟨b', off, ua, uc, sa, sc, rfl, hx⟩ := HC.out k hlt
      have BWr : Below w.heap.size w wr := B1.out.trans (hbel.mono B1.out.size)
      obtain ⟨hb, d0, d1, d2, hii, hff⟩ := hx.below BWr
      have II := Lib.hid hii
      have FF := Lib.hid hff
      have BW := Lib.hid BWr
      obtain ⟨m1, m2, m3, m4⟩ := L3.out k hlt
      have M3 := Lib.hid m3
      have m5 := L4.out k hlt
      clear hbk hcm hbel hx hii hff BWr m3
      go_upto_region 5 with (fail)
      obtain ⟨W, hW⟩ : ∃ W, W = wr.alloc (.cells #[.slice ua (mg cs k).1.length uc, .slice sa (mg cs k).2.1.length sc, .string (mg cs k).2.2] 54) := ⟨_, rfl⟩
      rw [← hW]
      have AW : Hid (Below wr.heap.size wr W) := by rw [hW]; exact (Below.refl _ _).alloc (Nat.le_refl _) _
      have KC : Hid (BK W wr.heap.size #[.slice ua (mg cs k).1.length uc, .slice sa (mg cs k).2.1.length sc, .string (mg cs k).2.2] 54) := by rw [hW]; exact BK.new _ _ _
      have KD := Lib.hid (KB.out.later AW.out)
      have zW := KC.out.lt
      have IW := Lib.hid (II.out.below AW.out)
      have FW := Lib.hid (FF.out.below AW.out)
      have CW := Lib.hid (CM.out.below KI.law AW.out)
      clear hW d0 d1 d2
      have e0 := KC.out.cell 0 (v := .slice ua (mg cs k).1.length uc) rfl
      have e1 := KC.out.cell 1 (v := .slice sa (mg cs k).2.1.length sc) rfl
      have e2 := KC.out.cell 2 (v := .string (mg cs k).2.2) rfl
      have f0 := KD.out.cell 0 (v := cv) rfl
      go_region_law (first
        | (have hq := NC; clear hq; refine step_append_lies _ (by rfl) _ _ _ (by rfl) (w1.heap.size + 1) 54 i0 _ 3 64 Tryz.underlying43 HI.out HZ0.out HZ1.out HZ2.out rfl (by omega) cv k (flatM cs ad k) (by rfl) (R3.out.alloc _) ⟨w3.heap.size, 0, none⟩ 1 1 (cellsM (mg cs k) (.slice a2 (mg cs k).1.length c2, .slice a3 (mg cs k).2.1.length c3, adf)) (by rfl) (by rfl) (World.news_of_block (cs := #[.slice a2 (mg cs k).1.length c2, .slice a3 (mg cs k).2.1.length c3, .string (mg cs k).2.2]) (t := 54) (fr := (0, 0)) (heap_alloc_new w3 _)) (by simp [Value.oneCell', cellsM]) (by omega) (by unfold maxLen; omega) (by omega) (by simp; omega) (w3.heap.size + 1) (by simp) ?_; intro gg cap' wa hown1 hgrow hat hlt'; have g0 : wa.cell? ⟨w1.heap.size, 0, none⟩ = some cv := alloc_grown_cell hgrow zB3 (K3.out.cell 0 (v := cv) rfl) NV.out; have g1 : wa.frozen? ⟨w1.heap.size, 0, none⟩ = false := (hgrow.frozen_far ⟨w1.heap.size, 0, none⟩ (by simp; omega) (fun e => NV.out e.symm)).trans ((Below.frozen (p := ⟨w1.heap.size, 0, none⟩) ((Below.refl w3.heap.size w3).alloc (Nat.le_refl _) _) zB3).trans (K3.out.frozen 0)); have OW := Lib.hid hown1; have GR := Lib.hid hgrow; have AT := Lib.hid hat; clear hown1 hgrow hat)
        | (go_simp; go_at_call 113; refine (commitCopy_any (mg cs k) ua uc sa sc _ (IW.out.below (drew_below _)) (FW.out.below (drew_below _)) (by omega) (by omega) M3.out).mono ?_; rintro e w3 ⟨uv, sv, adf, rfl, hA⟩; obtain ⟨a2, c2, rfl, _, _⟩ := hA.1.form; obtain ⟨a3, c3, rfl⟩ := hA.2.1.form; have NC := Lib.hid hA; have B3 : Hid (Below W.heap.size W w3) := (drew_below W).trans hA.2.2.2; have K3 := Lib.hid (KD.out.later B3.out); have C3 := Lib.hid (CW.out.below KI.law B3.out); have R3 := Lib.hid C3.out.row; have zB3 := K3.out.lt; have f3 := K3.out.cell 0 (v := cv) rfl; have NV : Hid (cv.ownBlock ≠ some w1.heap.size) := (fun e => by have := (C3.out.row.lt _ e).1; omega); clear hA; dsimp only)
        | fail)
      all_goals
        have P3 := NC.out.part
        have z3 := B3.out.size
        have HS : Hid (Cms KI wa (w1.heap.size + 1) (.slice (some ⟨gg, 0, none⟩) (k + 1) cap') (k + 1) cs _ _) := Cms.step KI.law (C3.out.below KI.law ((Below.refl _ _).alloc (Nat.le_refl _) _)) (KI.law.keep P3 (fun x hx => hx.2) (Turned.of_below (S := fun _ => False) ((Below.refl w3.heap.size w3).alloc (Nat.le_refl _) (.cells #[.slice a2 (mg cs k).1.length c2, .slice a3 (mg cs k).2.1.length c3, .string (mg cs k).2.2] 54))) fun _ _ h => h) (fun x hx => ⟨by have := hx.1; simp only [World.drew] at this; omega, by have := hx.2; simp; omega, fun e => by have h1 := (CW.out.row.lt x e).2; have := hx.1; simp only [World.drew] at this; omega, fun i hi hs => by have h1 := (CW.out.rng i hi x hs).2.1; have := hx.1; simp only [World.drew] at this; omega⟩) OW.out GR.out (AT.out.imp id fun e => by rw [e]; simp)
        have HE : Hid (Below w1.heap.size w1 wa) := ((((HB.out.trans (AW.out.mono hsz)).trans (B3.out.mono (by omega))).alloc (by omega) _).grown GR.out (by simp; omega) (fun j hj => by have := (C3.out.row.lt j hj).1; omega))
        have HK : Hid (BK wa w1.heap.size #[cv, .slice bh hs.length ch] 46) := (GR.out.block _ (by simp; omega) (fun e => NV.out e.symm)).trans (K3.out.alloc _)
        clear g0 g1 f3 f0 e0 e1 e2
        go_wp2
        go_roundw
        case rel => exact ⟨k + 1, _, _, _, by omega, by go_num, HK.out.set 0 _, HS.out.turned KI.law (Turned.of_set (S := fun x => x = w1.heap.size) _ _ _ rfl) (fun x hx e => by have := (HS.out.blocks x hx).1; omega), HE.out.setCell (Nat.le_refl _) _⟩
        case measure => simp [intOf]; omega
    · obtain rfl : k = cs.length := by omega
      clear hbk hcm hbel
      have f1 := KB.out.cell 1 (v := .slice bh hs.length ch) rfl
      have X2r := Lib.hid (X2.out.later HB.out)
      have r0 := X2r.out.cell 0 (v := .slice none 0 0) rfl
      have r1 := X2r.out.cell 1 (v := .slice none 0 0) rfl
      have r2 := X2r.out.frozen 0
      have r3 := X2r.out.frozen 1
      obtain ⟨ac, cc, rfl, _, _⟩ := CM.out.form KI.law
      have f0 := KB.out.cell 0 (v := .slice ac cs.length cc) rfl
      go_wp2
      have KR := (X2r.out.set 0 (.slice ac cs.length cc)).set 1 (.slice bh hs.length ch)
      have r4 := KR.cell 0 (v := .slice ac cs.length cc) rfl
      have r5 := KR.cell 1 (v := .slice bh hs.length ch) rfl
      refine bodyPost_ret (v := .agg #[.slice ac cs.length cc, .slice bh hs.length ch]) (by simp [results, Tryz.results98, go_sem, r4, r5]) rfl ?_
      have T2 : Turned wr ((wr.setCell ⟨w.heap.size + 1, 0, none⟩ (.slice ac cs.length cc)).setCell ⟨w.heap.size + 1, 1, none⟩ (.slice bh hs.length ch)) (fun x => x = w.heap.size + 1) := (Turned.of_set (S := fun x => x = w.heap.size + 1) _ _ _ rfl).trans (Turned.of_set _ _ _ rfl)
      have GE := G1.out.below HB.out
      have zh := G1.out.own.lt
      refine ⟨_, _, ad, S, rfl, ⟨(CM.out.low (by omega)).turned KI.law T2 fun x hx e => by have := (CM.out.blocks x hx).1; omega, (GE.low (by omega)).turned T2 fun x hx e => by have := (zh x hx).1; omega, fun x hx hc => by have h1 := (zh x hx).2; have := (CM.out.blocks x hc).1; omega⟩, (B1.out.trans (HB.out.mono B1.out.size)).trans (T2.below (by have := B1.out.size; omega) fun x hx => by omega)⟩
end Go.Proofs.YtdfadpejddhbkaaGreat

namespace Go.Proofs.YtdfadpejddhbkaaGreat
set_option linter.unusedVariables false
open Go.ChangeShapes Go.WideShapes Go.ChangeAt Go.RowKit

/-- what is ahead of the version of a place can be so -/
def UpOk (up : List Int) (k : Nat) : Prop := (∀ i, i < up.length → 0 ≤ ix up i ∧ ix up i < k) ∧ up.length ≤ 2 ∧ (0 < up.length ↔ 0 < k) ∧ (up.length = 2 → ix up 0 ≠ ix up 1)
open Classical in
noncomputable def upB (up : List Int) (k : Nat) : Bool := decide (UpOk up k)
theorem upB_true {up : List Int} {k : Nat} (h : UpOk up k) : upB up k = true := by simp [upB, h]
theorem upB_false {up : List Int} {k : Nat} (h : ¬ UpOk up k) : upB up k = false := by simp [upB, h]
theorem upB_iff {up : List Int} {k : Nat} : upB up k = true ↔ UpOk up k := by simp [upB]

set_option maxRecDepth 100000 in
set_option maxHeartbeats 4000000 in
theorem l7Up_any (a : Option Addr) (cap : Nat) (up : List Int) (k : Nat) (w : World) (hp : IntsAt w a up) (hl : up.length ≤ 1048576) (hk : k ≤ 1048576) :
    Calls Tryz.prog 82 #[.slice a up.length cap, .int .i64 k] w fun e w' => e = .returned (.bool (upB up k)) ∧ ∃ n, w' = w.drewN n := by
  have HP := Lib.hid hp
  clear hp
  go_enter Tryz.func82, Tryz.ntmps82
  go_wp2
  go_loop [5] (fun i => ∃ j : Nat, j ≤ up.length ∧ i = .int .i64 j ∧ ∀ i, i < j → 0 ≤ ix up i ∧ ix up i < k) (fun i => up.length - (intOf i).toNat)
  case atStart => exact ⟨0, Nat.zero_le _, rfl, fun j h => absurd h (Nat.not_lt_zero _)⟩
  case round =>
    obtain ⟨j, hj, rfl, hall⟩ := hrel
    have HA := Lib.hid hall
    clear hall
    by_cases hlt : j < up.length
    · obtain ⟨b, off, rfl, hb, hc1⟩ := HP.out j hlt
      by_cases g1 : 0 ≤ ix up j
      · by_cases g2 : ix up j < k
        · go_wp2
          go_round
          case rel => exact ⟨j + 1, by omega, by go_num, fun i hi => by by_cases e : i = j; (subst e; exact ⟨g1, g2⟩); exact HA.out i (by omega)⟩
          case measure => simp [intOf]; omega
        · have HF : Hid (upB up k = false) := upB_false fun h => g2 (h.1 j hlt).2
          go_wp2
          go_ret
          exact ⟨by rw [HF.out]; rfl, 0, rfl⟩
      · have HF : Hid (upB up k = false) := upB_false fun h => g1 (h.1 j hlt).1
        go_wp2
        go_ret
        exact ⟨by rw [HF.out]; rfl, 0, rfl⟩
    · obtain rfl : j = up.length := by omega
      have hcase : up.length = 0 ∨ up.length = 1 ∨ up.length = 2 ∨ 2 < up.length := by omega
      have hkk : k = 0 ∨ ∃ m, k = m + 1 := by cases k; exact .inl rfl; exact .inr ⟨_, rfl⟩
      generalize hn : up.length = n at hcase ⊢
      have HN := Lib.hid hn
      clear hn hl hj
      rcases hcase with rfl | rfl | rfl | q
      · rcases hkk with rfl | ⟨m, rfl⟩
        · have HF : Hid (upB up 0 = true) := upB_true ⟨HA.out, by have := HN.out; omega, by have := HN.out; omega, fun h => absurd h (by have := HN.out; omega)⟩
          go_wp2
          go_quiet (fail)
          go_wp2
          go_ret
          exact ⟨by rw [HF.out]; rfl, _, rfl⟩
        · have HF : Hid (upB up (m + 1) = false) := upB_false fun h => absurd (h.2.2.1.2 (by omega)) (by have := HN.out; omega)
          go_wp2
          go_quiet (fail)
          go_wp2
          go_ret
          exact ⟨by rw [HF.out]; rfl, _, rfl⟩
      · rcases hkk with rfl | ⟨m, rfl⟩
        · have HF : Hid (upB up 0 = false) := upB_false fun h => absurd (h.2.2.1.1 (by have := HN.out; omega)) (by omega)
          go_wp2
          go_quiet (fail)
          go_wp2
          go_ret
          exact ⟨by rw [HF.out]; rfl, _, rfl⟩
        · have HF : Hid (upB up (m + 1) = true) := upB_true ⟨HA.out, by have := HN.out; omega, by have := HN.out; omega, fun h => absurd h (by have := HN.out; omega)⟩
          go_wp2
          go_quiet (fail)
          go_wp2
          go_ret
          exact ⟨by rw [HF.out]; rfl, _, rfl⟩
      · obtain ⟨b, off, rfl, hb, c0⟩ := HP.out 0 (by have := HN.out; omega)
        obtain ⟨b', off', e, hb', c1⟩ := HP.out 1 (by have := HN.out; omega)
        obtain ⟨rfl, rfl⟩ : b = b' ∧ off = off' := by simpa using e
        simp only [Nat.add_zero] at c0
        rcases hkk with rfl | ⟨m, rfl⟩
        · have HF : Hid (upB up 0 = false) := upB_false fun h => absurd (h.2.2.1.1 (by have := HN.out; omega)) (by omega)
          go_wp2
          go_quiet (fail)
          go_wp2
          go_ret
          exact ⟨by rw [HF.out]; rfl, _, rfl⟩
        · by_cases q5 : ix up 0 = ix up 1
          · have e5 : (ix up 0 != ix up 1) = false := by simp [q5]
            have HF : Hid (upB up (m + 1) = false) := upB_false fun h => h.2.2.2 HN.out q5
            clear q5
            go_wp2
            go_quiet (fail)
            go_wp2
            go_ret
            exact ⟨by rw [HF.out]; rfl, _, rfl⟩
          · have e5 : (ix up 0 != ix up 1) = true := by simp [q5]
            have HF : Hid (upB up (m + 1) = true) := upB_true ⟨HA.out, by have := HN.out; omega, by have := HN.out; omega, fun _ => q5⟩
            clear q5
            go_wp2
            go_quiet (fail)
            go_wp2
            go_ret
            exact ⟨by rw [HF.out]; rfl, _, rfl⟩
      · have b1 : decide ((n : Int) ≤ 2) = false := by simp; omega
        have HF : Hid (upB up k = false) := upB_false fun h => absurd h.2.1 (by have := HN.out; omega)
        go_wp2
        go_quiet (fail)
        go_wp2
        go_ret
        exact ⟨by rw [HF.out]; rfl, _, rfl⟩

/-- where a branch of that name is first, or -1 -/
def FirstHd (hs : List Hd) (x : ByteArray) (r : Int) : Prop :=
  (r = -1 ∧ ∀ j, j < hs.length → hdn hs j ≠ x) ∨ ∃ k : Nat, r = k ∧ k < hs.length ∧ hdn hs k = x ∧ ∀ j, j < k → hdn hs j ≠ x

theorem FirstHd.unique {hs : List Hd} {x : ByteArray} {r s : Int} (h : FirstHd hs x r) (k : FirstHd hs x s) : r = s := by
  rcases h with ⟨rfl, h⟩ | ⟨i, rfl, h1, h2, h3⟩
  · rcases k with ⟨rfl, k⟩ | ⟨j, rfl, k1, k2, k3⟩
    · rfl
    · exact absurd k2 (h j k1)
  · rcases k with ⟨rfl, k⟩ | ⟨j, rfl, k1, k2, k3⟩
    · exact absurd h2 (k i h1)
    · by_cases q1 : i < j
      · exact absurd h2 (k3 i q1)
      · by_cases q2 : j < i
        · exact absurd k2 (h3 j q2)
        · rw [show i = j by omega]

set_option maxRecDepth 100000 in
set_option maxHeartbeats 2000000 in
theorem l7Head_any (a b : Option Addr) (ca cb n : Nat) (hs : List Hd) (x : ByteArray) (w : World) (hh : HeadsAt w b hs) (hl : hs.length ≤ 1048576) :
    Calls Tryz.prog 85 #[.agg #[.slice a n ca, .slice b hs.length cb], .string x] w fun e w' => (∃ r, e = .returned (.int .i64 r) ∧ FirstHd hs x r) ∧ Below w.heap.size w w' := by
  have HH := Lib.hid (hh.below ((Below.refl _ _).alloc (Nat.le_refl _) (.cells #[.slice a n ca, .slice b hs.length cb] 46)))
  clear hh
  have B0 : Hid (∀ o, Below w.heap.size w (w.alloc o)) := fun o => (Below.refl _ _).alloc (Nat.le_refl _) _
  go_enter Tryz.func85, Tryz.ntmps85
  go_wp2
  go_loop [5] (fun i => ∃ k : Nat, k ≤ hs.length ∧ i = .int .i64 k ∧ ∀ j, j < k → hdn hs j ≠ x) (fun i => hs.length - (intOf i).toNat)
  case atStart => exact ⟨0, Nat.zero_le _, rfl, fun j h => absurd h (Nat.not_lt_zero _)⟩
  case round =>
    obtain ⟨k, hk, rfl, hall⟩ := hrel
    have HA := Lib.hid hall
    clear hall
    by_cases hlt : k < hs.length
    · obtain ⟨b', off, rfl, hb, hc1, hc2⟩ := HH.out k hlt
      have e1 := bytes_beq (hdn hs k) x
      by_cases h1 : hdn hs k = x
      · rw [decide_eq_true h1] at e1
        have HG : Hid (FirstHd hs x k) := .inr ⟨k, rfl, hlt, h1, HA.out⟩
        clear h1
        go_wp2
        go_ret
        exact ⟨⟨_, rfl, HG.out⟩, B0.out _⟩
      · rw [decide_eq_false h1] at e1
        have H1 := Lib.hid h1
        clear h1
        go_wp2
        go_round
        case rel => exact ⟨k + 1, by omega, by go_num, fun j hj => by by_cases e : j = k; (subst e; exact H1.out); exact HA.out j (by omega)⟩
        case measure => simp [intOf]; omega
    · obtain rfl : k = hs.length := by omega
      go_wp2
      go_ret
      exact ⟨⟨_, rfl, .inl ⟨rfl, HA.out⟩⟩, B0.out _⟩

/-- where that version is first, or -1 -/
def FirstCm (cs : List Cm) (c : Cm) (r : Int) : Prop :=
  (r = -1 ∧ ∀ j, j < cs.length → mg cs j ≠ c) ∨ ∃ k : Nat, r = k ∧ k < cs.length ∧ mg cs k = c ∧ ∀ j, j < k → mg cs j ≠ c

theorem FirstCm.unique {cs : List Cm} {x : Cm} {r s : Int} (h : FirstCm cs x r) (k : FirstCm cs x s) : r = s := by
  rcases h with ⟨rfl, h⟩ | ⟨i, rfl, h1, h2, h3⟩
  · rcases k with ⟨rfl, k⟩ | ⟨j, rfl, k1, k2, k3⟩
    · rfl
    · exact absurd k2 (h j k1)
  · rcases k with ⟨rfl, k⟩ | ⟨j, rfl, k1, k2, k3⟩
    · exact absurd h2 (k i h1)
    · by_cases q1 : i < j
      · exact absurd h2 (k3 i q1)
      · by_cases q2 : j < i
        · exact absurd k2 (h3 j q2)
        · rw [show i = j by omega]

set_option maxRecDepth 100000 in
set_option maxHeartbeats 4000000 in
theorem l7Find_any (a b : Option Addr) (ca cb n : Nat) (cs : List Cm) (c : Cm) (ua sa : Option Addr) (uc sc : Nat) (w : World) (hc : CommitsAt w a cs) (hl : cs.length ≤ 1048576) (hL : CmsLen cs 1048576) (hi : IntsAt w ua c.1) (hf : FeatsAt w sa c.2.1) (hcl : CmLen c 1048576) :
    Calls Tryz.prog 84 #[.agg #[.slice a cs.length ca, .slice b n cb], .agg #[.slice ua c.1.length uc, .slice sa c.2.1.length sc, .string c.2.2]] w fun e w' => (∃ r, e = .returned (.int .i64 r) ∧ FirstCm cs c r) ∧ Below w.heap.size w w' := by
  have HC := Lib.hid hc
  have HL := Lib.hid hL
  have HI := Lib.hid hi
  have HF := Lib.hid hf
  have HCL := Lib.hid hcl
  clear hc hL hi hf hcl
  go_enter Tryz.func84, Tryz.ntmps84
  go_wp2
  go_loopw [5] (fun i wr => ∃ k : Nat, k ≤ cs.length ∧ i = .int .i64 k ∧ BK wr w.heap.size #[.slice a cs.length ca, .slice b n cb] 46 ∧ BK wr (w.heap.size + 1) #[.slice ua c.1.length uc, .slice sa c.2.1.length sc, .string c.2.2] 54 ∧ Below w.heap.size w wr ∧ ∀ j, j < k → mg cs j ≠ c) (fun i _ => cs.length - (intOf i).toNat)
  case atStart => exact ⟨0, Nat.zero_le _, rfl, (BK.new _ _ _).alloc _, BK.at _ _ _ (by simp), ((Below.refl _ _).alloc (Nat.le_refl _) _).alloc (by simp) _, fun j h => absurd h (Nat.not_lt_zero _)⟩
  case round =>
    obtain ⟨k, hk, rfl, hk1, hk2, hbel, hall⟩ := hrel
    have HA := Lib.hid hall
    have HB := Lib.hid hbel
    have K1 := Lib.hid hk1
    have K2 := Lib.hid hk2
    have hsz := hbel.size
    have r0 := hk1.cell 0 rfl
    have z1 := hk2.lt
    clear hall hk1
    by_cases hlt : k < cs.length
    · obtain ⟨b', off, ua', uc', sa', sc', rfl, hx⟩ := HC.out k hlt
      obtain ⟨zb, c0, c1, c2, hii, hff⟩ := hx.below hbel
      have q0 := hk2.cell 0 rfl
      have q1 := hk2.cell 1 rfl
      have q2 := hk2.cell 2 rfl
      have D1 : Hid (IntsAt wr.drew ua' (mg cs k).1) := hii.below (Below.refl _ _).drew
      have D2 : Hid (FeatsAt wr.drew sa' (mg cs k).2.1) := hff.below (Below.refl _ _).drew
      have D3 : Hid (IntsAt wr.drew ua c.1) := HI.out.below hbel.drew
      have D4 : Hid (FeatsAt wr.drew sa c.2.1) := HF.out.below hbel.drew
      clear hbel hii hff hx hk2
      go_wp2
      go_still_tail 6, (by kernel_rfl)
      go_wp2_with fail
      clear r0 c0 c1 c2 q0 q1 q2
      refine (l7Same_any _ _ _ _ _ _ _ _ _ _ _ D1.out D2.out D3.out D4.out (HL.out k hlt) HCL.out).mono ?_
      rintro e w1 ⟨rfl, hb2⟩
      have B2 : Hid (Below w.heap.size w w1) := HB.out.drew.trans (hb2.mono hsz)
      have J1 : Hid (BK w1 w.heap.size #[.slice (some ⟨b', off, none⟩) cs.length ca, .slice b n cb] 46) := BK.later (K1.out.drew) hb2
      have J2 : Hid (BK w1 (w.heap.size + 1) #[.slice ua c.1.length uc, .slice sa c.2.1.length sc, .string c.2.2] 54) := BK.later (K2.out.drew) hb2
      clear hb2
      by_cases hs : mg cs k = c
      · rw [show cmEq (mg cs k) c = true from cmEq_iff.2 hs]
        have HG : Hid (FirstCm cs c k) := .inr ⟨k, rfl, hlt, hs, HA.out⟩
        clear hs
        go_wp2
        go_ret
        exact ⟨⟨_, rfl, HG.out⟩, B2.out⟩
      · rw [show cmEq (mg cs k) c = false from cmEq_no hs]
        have HG := Lib.hid hs
        clear hs
        go_wp2
        go_roundw
        case rel => exact ⟨k + 1, by omega, by go_num, J1.out, J2.out, B2.out, fun j hj => by by_cases e : j = k; (subst e; exact HG.out); exact HA.out j (by omega)⟩
        case measure => simp [intOf]; omega
    · obtain rfl : k = cs.length := by omega
      clear hbel hk2
      go_wp2
      go_ret
      exact ⟨⟨_, rfl, .inl ⟨rfl, HA.out⟩⟩, HB.out⟩
end Go.Proofs.YtdfadpejddhbkaaGreat

namespace Go.Proofs.YtdfadpejddhbkaaGreat
set_option linter.unusedVariables false
open Go.ChangeShapes Go.WideShapes Go.ChangeAt Go.RowKit Go.Maps

/-- the map of the places of the first branches -/
def mapH (hs : List Hd) : Nat → DataW Value
  | 0 => .map []
  | k + 1 => (mapH hs k).put (keyL (hdn hs k)) (.held (.int .i64 k))

theorem keyL_inj {x y : ByteArray} (h : keyL x = keyL y) : x = y := by
  have := Lit.string.inj h
  rw [← toList_inj, ByteArray.toList_eq, ByteArray.toList_eq]
  exact this

theorem mapH_tidy (hs : List Hd) : ∀ k, Tidy (mapH hs k)
  | 0 => tidy_empty
  | k + 1 => (mapH_tidy hs k).put (show WideAt.IsKeyLit (keyL _) from trivial) _

theorem has_mapH (hs : List Hd) (x : ByteArray) : ∀ k, Maps.has (mapH hs k) (keyL x) = true ↔ ∃ j, j < k ∧ hdn hs j = x
  | 0 => by simp [mapH, Maps.has]
  | k + 1 => by
    by_cases e : hdn hs k = x
    · subst e
      have : Maps.has (mapH hs (k + 1)) (keyL (hdn hs k)) = true := has_put_same (mapH_tidy hs k).isMap (show WideAt.IsKeyLit (keyL _) from trivial) _
      rw [this]
      exact ⟨fun _ => ⟨k, by omega, rfl⟩, fun _ => rfl⟩
    · have : Maps.has (mapH hs (k + 1)) (keyL x) = Maps.has (mapH hs k) (keyL x) := has_put_other (fun h => e (keyL_inj h).symm) _
      rw [this, has_mapH hs x k]
      constructor
      · rintro ⟨j, h1, h2⟩
        exact ⟨j, by omega, h2⟩
      · rintro ⟨j, h1, h2⟩
        refine ⟨j, ?_, h2⟩
        have : j ≠ k := fun h => e (h ▸ h2)
        omega

theorem at_mapH (hs : List Hd) (j : Nat) : ∀ k, j < k → (∀ i, j < i → i < k → hdn hs i ≠ hdn hs j) → ∀ z, (mapH hs k).atKey (keyL (hdn hs j)) z = .held (.int .i64 j)
  | 0, h, _, _ => absurd h (Nat.not_lt_zero _)
  | k + 1, h, hn, z => by
    by_cases e : j = k
    · subst e
      exact atKey_put_same (mapH_tidy hs j).isMap (show WideAt.IsKeyLit (keyL _) from trivial) _ _
    · have h1 : hdn hs k ≠ hdn hs j := hn k (by omega) (by omega)
      have : (mapH hs (k + 1)).atKey (keyL (hdn hs j)) z = (mapH hs k).atKey (keyL (hdn hs j)) z := atKey_put_other (fun h => h1 (keyL_inj h).symm) _ _
      rw [this]
      exact at_mapH hs j k (by omega) (fun i hi hk => hn i hi (by omega)) z

theorem size_mapH_le (hs : List Hd) : ∀ k, Maps.size (mapH hs k) ≤ k
  | 0 => Nat.le_refl _
  | k + 1 => by
    have h : Maps.size (mapH hs (k + 1)) = _ := size_put (mapH_tidy hs k) (.held (.int .i64 k))
    have := size_mapH_le hs k
    rw [h]
    split <;> omega

/-- no name of the first ones comes twice -/
def NamesApart (hs : List Hd) (k : Nat) : Prop := ∀ i j, j < i → i < k → hdn hs j ≠ hdn hs i

theorem size_mapH (hs : List Hd) : ∀ k, Maps.size (mapH hs k) = k ↔ NamesApart hs k
  | 0 => ⟨fun _ i j _ h => absurd h (Nat.not_lt_zero _), fun _ => rfl⟩
  | k + 1 => by
    have h : Maps.size (mapH hs (k + 1)) = _ := size_put (mapH_tidy hs k) (.held (.int .i64 k))
    have hl := size_mapH_le hs k
    have ih := size_mapH hs k
    have hh := has_mapH hs (hdn hs k) k
    rw [h]
    constructor
    · intro e
      split at e
      · omega
      · rename_i hn
        have ha : NamesApart hs k := ih.1 (by omega)
        intro i j hj hi
        by_cases e2 : i = k
        · subst e2
          exact fun h3 => hn (hh.2 ⟨j, hj, h3⟩)
        · exact ha i j hj (by omega)
    · intro ha
      have hn : ¬ Maps.has (mapH hs k) (keyL (hdn hs k)) = true := fun h2 => by
        obtain ⟨j, h3, h4⟩ := hh.1 h2
        exact ha k j h3 (by omega) h4
      rw [if_neg hn, ih.2 fun i j hj hi => ha i j hj (by omega)]

set_option maxHeartbeats 1000000 in
theorem headsByName_any (a : Option Addr) (cap : Nat) (hs : List Hd) (w : World) (hp : HeadsAt w a hs) (hl : hs.length ≤ 1048576) (ht : HeadsLen hs 9223372036854775807) :
    Calls Tryz.prog 97 #[.slice a hs.length cap] w fun e w' => e = .returned (.map (some w.heap.size)) ∧ w'.ownsMap Tryz.prog 9 heldElem w.heap.size hs.length (mapH hs hs.length) ∧ Below w.heap.size w w' := by
  have HP := Lib.hid hp
  have HL := Lib.hid ht
  clear hp ht
  have hmm := @run_makeMap Tryz.prog
  go_enter Tryz.func97, Tryz.ntmps97
  go_wp2
  clear hmm
  go_loopw [4, 5, 9] (fun _ _ i wr => ∃ k : Nat, k ≤ hs.length ∧ i = .int .i64 k ∧ wr.ownsMap Tryz.prog 9 heldElem w.heap.size k (mapH hs k) ∧ Below w.heap.size w wr) (fun _ _ i _ => hs.length - (intOf i).toNat)
  case atStart => exact ⟨0, Nat.zero_le _, rfl, World.ownsMap_made _ _ _ _, (Below.refl _ _).alloc (Nat.le_refl _) _⟩
  case round =>
    obtain ⟨k, hk, rfl, hown, hbel⟩ := hrel
    have HB := Lib.hid hbel
    have hsz := hbel.size
    by_cases hlt : k < hs.length
    · obtain ⟨b, off, rfl, hb, hc1, hc2⟩ := HP.out k hlt
      rw [← hbel.cell (p := ⟨b, _, none⟩) hb] at hc1 hc2
      clear hbel
      have hkey : keyOf Tryz.prog 9 (.string (hdn hs k)) = some (keyL (hdn hs k)) := Go.WideMaps.keyOf_string_mk Tryz.underlying9 (by have := HL.out k hlt; unfold maxLen; omega)
      go_wp2_with (at_mapUpdate; refine wpList_mapUpdate_own _ rfl _ _ _ 131 rfl 9 3 keyT Tryz.underlying131 _ w.heap.size k _ rfl (hown.alloc _) (by unfold maxLen; omega) _ _ _ rfl rfl hkey (.held (.int .i64 k)) [] rfl ?_; intro w1 hown1 hgrow1)
      have HO : Hid (w1.ownsMap Tryz.prog 9 heldElem w.heap.size (k + 1) (mapH hs (k + 1))) := hown1
      have HG := Lib.hid hgrow1
      clear hown1 hgrow1 hown
      go_roundw
      case rel => exact ⟨k + 1, by omega, by go_num, HO.out, (HB.out.alloc hsz _).grown HG.out (by simp; omega) (fun j hj => by cases hj; exact Nat.le_refl _)⟩
      case measure => simp [intOf]; omega
    · obtain rfl : k = hs.length := by omega
      have HO := Lib.hid hown
      clear hown hbel
      go_wp2
      go_ret
      exact ⟨rfl, HO.out, HB.out⟩

/-- where a branch of that name is, the last -/
def lastH (hs : List Hd) (x : ByteArray) : Nat → Option Nat
  | 0 => none
  | k + 1 => if hdn hs k = x then some k else lastH hs x k

theorem lastH_some {hs : List Hd} {x : ByteArray} : ∀ {k j : Nat}, lastH hs x k = some j → j < k ∧ hdn hs j = x ∧ ∀ i, j < i → i < k → hdn hs i ≠ x
  | 0, _, h => by cases h
  | k + 1, j, h => by
    unfold lastH at h
    split at h
    · rename_i e
      cases h
      exact ⟨by omega, e, fun i h1 h2 => absurd h2 (by omega)⟩
    · rename_i e
      obtain ⟨h1, h2, h3⟩ := lastH_some h
      exact ⟨by omega, h2, fun i hi hk => by by_cases q : i = k; (subst q; exact e); exact h3 i hi (by omega)⟩

theorem lastH_none {hs : List Hd} {x : ByteArray} : ∀ {k : Nat}, lastH hs x k = none → ∀ i, i < k → hdn hs i ≠ x
  | 0, _, i, hi => absurd hi (Nat.not_lt_zero _)
  | k + 1, h, i, hi => by
    unfold lastH at h
    split at h
    · cases h
    · rename_i e
      by_cases q : i = k
      · subst q
        exact e
      · exact lastH_none h i (by omega)

/-- the first branch of that name, among branches whose names are apart -/
theorem lastH_first {hs : List Hd} {x : ByteArray} {k j : Nat} (ha : NamesApart hs k) (hj : j < k) (e : hdn hs j = x) : lastH hs x k = some j := by
  cases h : lastH hs x k with
  | none => exact absurd e (lastH_none h j hj)
  | some i =>
    obtain ⟨h1, h2, _⟩ := lastH_some h
    by_cases q1 : i < j
    · exact absurd (h2.trans e.symm) (ha j i q1 hj)
    · by_cases q2 : j < i
      · exact absurd (e.trans h2.symm) (ha i j q2 h1)
      · rw [show i = j by omega]

/-- what a look-up with 'ok' gives -/
theorem look_head {w : World} {b n : Nat} {hs : List Hd} {k : Nat} (hown : w.ownsMap Tryz.prog 9 heldElem b n (mapH hs k)) (x : ByteArray) (hl : x.size ≤ maxLen) :
    (Instr.lookup 131 (.map (some b)) (.string x) true).run Tryz.prog w = .ok (.tuple #[.int .i64 (match lastH hs x k with | some j => j | none => 0), .bool (lastH hs x k).isSome]) w := by
  have hz : (zeroValue 3).run Tryz.prog w = .ok (.int .i64 0) w := by kernel_rfl
  obtain ⟨v, ps, hrun, hv⟩ := hown.look_ok keyT Tryz.underlying131 hz (zd := .held (.int .i64 0)) (zp := []) rfl (Go.WideMaps.keyOf_string_mk Tryz.underlying9 hl)
  simp only [heldElem, Option.some.injEq, Prod.mk.injEq] at hv
  cases hg : lastH hs x k with
  | none =>
    have hn : Maps.has (mapH hs k) (keyL x) = false := by
      cases hh : Maps.has (mapH hs k) (keyL x)
      · rfl
      · obtain ⟨j, h1, h2⟩ := (has_mapH hs x k).1 hh
        exact absurd h2 (lastH_none hg j h1)
    have h3 := hv.1
    rw [show (Lit.string x.data.toList) = keyL x from rfl, atKey_of_not_has hn] at h3
    rw [hrun, DataW.held.inj h3, show (Lit.string x.data.toList) = keyL x from rfl, hn]
    rfl
  | some j =>
    obtain ⟨h1, h2, h4⟩ := lastH_some hg
    have hh : Maps.has (mapH hs k) (keyL x) = true := (has_mapH hs x k).2 ⟨j, h1, h2⟩
    have h3 := hv.1
    subst h2
    rw [show (Lit.string (hdn hs j).data.toList) = keyL (hdn hs j) from rfl, at_mapH hs j k h1 h4] at h3
    rw [hrun, DataW.held.inj h3, show (Lit.string (hdn hs j).data.toList) = keyL (hdn hs j) from rfl, hh]
    rfl
end Go.Proofs.YtdfadpejddhbkaaGreat

namespace Go.Proofs.YtdfadpejddhbkaaGreat
set_option linter.unusedVariables false
open Go.ChangeShapes Go.WideShapes Go.ChangeAt Go.RowKit

/-- the version of a place is right -/
structure CmGood (cs : List Cm) (i : Nat) : Prop where
  up : UpOk (mg cs i).1 i
  sheet : sheetOk (mg cs i).2.1 = true
  note : wordOk (mg cs i).2.2 = true
  once : ∀ j, j < i → mg cs j ≠ mg cs i

/-- the branch of a place is right -/
structure HdGood (hs : List Hd) (n i : Nat) : Prop where
  name : wordOk (hdn hs i) = true
  once : ∀ j, j < i → hdn hs j ≠ hdn hs i
  lo : 0 ≤ hda hs i
  hi : hda hs i < n

/-- versions and branches are right -/
structure RepoGood (cs : List Cm) (hs : List Hd) : Prop where
  c1 : 1 ≤ cs.length
  c2 : cs.length ≤ 14
  h1 : 1 ≤ hs.length
  h2 : hs.length ≤ 4
  cms : ∀ i, i < cs.length → CmGood cs i
  hds : ∀ i, i < hs.length → HdGood hs cs.length i

open Classical in
noncomputable def repoOk (cs : List Cm) (hs : List Hd) : Bool := decide (RepoGood cs hs)
theorem repoOk_true {cs : List Cm} {hs : List Hd} (h : RepoGood cs hs) : repoOk cs hs = true := by simp [repoOk, h]
theorem repoOk_false {cs : List Cm} {hs : List Hd} (h : ¬ RepoGood cs hs) : repoOk cs hs = false := by simp [repoOk, h]
theorem repoOk_iff {cs : List Cm} {hs : List Hd} : repoOk cs hs = true ↔ RepoGood cs hs := by simp [repoOk]

set_option maxRecDepth 100000 in
set_option maxHeartbeats 8000000 in
theorem specRepoOk_any (a b : Option Addr) (ca cb : Nat) (cs : List Cm) (hs : List Hd) (w : World) (hr : RepoAt w a b cs hs) (hl : RpLen cs hs 1048576) :
    Calls Tryz.prog 28 #[.agg #[.slice a cs.length ca, .slice b hs.length cb]] w fun e w' => e = .returned (.bool (repoOk cs hs)) ∧ Below w.heap.size w w' := by
  obtain ⟨l1, l2, l3, l4⟩ := hl
  have HR := Lib.hid hr
  have L3 := Lib.hid l3
  have L4 := Lib.hid l4
  clear hr l3 l4
  have A1 : Hid (∀ o, Below w.heap.size w (w.alloc o)) := fun o => (Below.refl _ _).alloc (Nat.le_refl _) _
  have lc : ∀ {p : Prop}, (¬ p) → (RepoGood cs hs → p) → Hid (repoOk cs hs = false) := fun h k => repoOk_false fun g => h (k g)
  by_cases g1 : (cs.length : Int) < 1
  · have HF := lc (p := 1 ≤ cs.length) (by omega) fun g => g.c1
    clear lc
    go_enter Tryz.func28, Tryz.ntmps28
    go_wp2
    go_ret
    exact ⟨by rw [HF.out]; rfl, A1.out _⟩
  by_cases g2 : (cs.length : Int) > 14
  · have HF := lc (p := cs.length ≤ 14) (by omega) fun g => g.c2
    clear lc
    go_enter Tryz.func28, Tryz.ntmps28
    go_wp2
    go_ret
    exact ⟨by rw [HF.out]; rfl, A1.out _⟩
  by_cases g3 : (hs.length : Int) < 1
  · have HF := lc (p := 1 ≤ hs.length) (by omega) fun g => g.h1
    clear lc
    go_enter Tryz.func28, Tryz.ntmps28
    go_wp2
    go_ret
    exact ⟨by rw [HF.out]; rfl, A1.out _⟩
  by_cases g4 : (hs.length : Int) > 4
  · have HF := lc (p := hs.length ≤ 4) (by omega) fun g => g.h2
    clear lc
    go_enter Tryz.func28, Tryz.ntmps28
    go_wp2
    go_ret
    exact ⟨by rw [HF.out]; rfl, A1.out _⟩
  have LC : Hid (∀ (p : Prop), (¬ p) → (RepoGood cs hs → p) → repoOk cs hs = false) := fun _ h k => (lc h k).out
  clear lc
  go_enter Tryz.func28, Tryz.ntmps28
  go_wp2
  go_loopw [3, 4] (fun i _ wr => ∃ k : Nat, k ≤ cs.length ∧ i = .int .i64 k ∧ BK wr w.heap.size #[.slice a cs.length ca, .slice b hs.length cb] 46 ∧ Below w.heap.size w wr ∧ ∀ j, j < k → CmGood cs j) (fun i _ _ => cs.length - (intOf i).toNat)
  case atStart => exact ⟨0, Nat.zero_le _, rfl, BK.new _ _ _, (Below.refl _ _).alloc (Nat.le_refl _) _, fun j h => absurd h (Nat.not_lt_zero _)⟩
  case round =>
    obtain ⟨k, hk, rfl, hk1, hbel, hall⟩ := hrel
    have HA := Lib.hid hall
    have HB := Lib.hid hbel
    have K1 := Lib.hid hk1
    have hsz := hbel.size
    have r0 := hk1.cell 0 rfl
    have r1 := hk1.cell 1 rfl
    have z1 := hk1.lt
    clear hall hk1
    by_cases hlt : k < cs.length
    · obtain ⟨b', off, ua, uc, sa, sc, e', hx⟩ := HR.out.cms k hlt
      obtain ⟨zb, c0, c1, c2, hii, hff⟩ := hx.below hbel
      have HI := Lib.hid hii
      have HF := Lib.hid hff
      clear hbel hii hff hx
      obtain ⟨m1, m2, m3, m4⟩ := L3.out k hlt
      have M3 := Lib.hid m3
      clear m3
      subst e'
      have A2 : Hid (∀ o n, Below wr.heap.size wr ((wr.alloc o).drewN n)) := fun o n => below_drewN ((Below.refl _ _).alloc (Nat.le_refl _) _) n
      go_wp2_with fail
      clear r0 r1 c0 c1 c2
      refine (l7Up_any _ _ _ _ _ (HI.out.below (A2.out _ 0)) (by omega) (by omega)).mono ?_
      rintro e w1 ⟨rfl, nq, e1⟩
      have hb1 : Below wr.heap.size wr w1 := by rw [e1]; exact A2.out _ _
      have J2 : Hid (BK w1 wr.heap.size #[.slice ua (mg cs k).1.length uc, .slice sa (mg cs k).2.1.length sc, .string (mg cs k).2.2] 54) := by rw [e1]; exact BK.new _ _ _
      clear e1
      have J1 : Hid (BK w1 w.heap.size #[.slice (some ⟨b', off, none⟩) cs.length ca, .slice b hs.length cb] 46) := K1.out.later hb1
      have B1 : Hid (Below w.heap.size w w1) := HB.out.trans (hb1.mono hsz)
      have I1 := Lib.hid (HI.out.below hb1)
      have F1 := Lib.hid (HF.out.below hb1)
      have C1 := Lib.hid (HR.out.cms.below B1.out)
      clear hb1 A2
      by_cases t1 : UpOk (mg cs k).1 k
      · rw [upB_true t1]
        have T1 := Lib.hid t1
        clear t1
        have q1 := J2.out.cell 1 rfl
        go_wp2_with fail
        clear q1
        refine (specSheetOk_any _ _ _ _ F1.out (by omega) M3.out).mono ?_
        rintro e w2 ⟨rfl, hb2⟩
        replace J1 : Hid (BK w2 _ _ _) := J1.out.later hb2
        replace J2 : Hid (BK w2 _ _ _) := J2.out.later hb2
        replace B1 : Hid (Below w.heap.size w w2) := B1.out.trans (hb2.mono B1.out.size)
        replace I1 := Lib.hid (I1.out.below hb2)
        replace F1 := Lib.hid (F1.out.below hb2)
        replace C1 := Lib.hid (C1.out.below hb2)
        clear hb2
        by_cases t2 : sheetOk (mg cs k).2.1 = true
        · rw [t2]
          have T2 := Lib.hid t2
          clear t2
          have q2 := J2.out.cell 2 rfl
          go_wp2_with fail
          clear q2
          refine (specWordOk_any _ _ (by omega)).mono ?_
          rintro e w3 ⟨rfl, rfl⟩
          by_cases t3 : wordOk (mg cs k).2.2 = true
          · rw [t3]
            have T3 := Lib.hid t3
            clear t3
            have r0 := J1.out.cell 0 rfl
            have r1 := J1.out.cell 1 rfl
            have q0 := J2.out.cell 0 rfl
            have q1 := J2.out.cell 1 rfl
            have q2 := J2.out.cell 2 rfl
            go_wp2_with fail
            clear r0 r1 q0 q1 q2
            refine (l7Find_any _ _ _ _ _ _ _ _ _ _ _ _ C1.out (by omega) L3.out I1.out F1.out (L3.out k hlt)).mono ?_
            rintro e w4 ⟨⟨r, rfl, hr⟩, hb4⟩
            replace J1 : Hid (BK w4 _ _ _) := J1.out.later hb4
            replace B1 : Hid (Below w.heap.size w w4) := B1.out.trans (hb4.mono B1.out.size)
            clear hb4 J2 I1 F1 C1
            by_cases t4 : r = k
            · have T4 : Hid (∀ j, j < k → mg cs j ≠ mg cs k) := by
                subst t4
                rcases hr with ⟨h1, _⟩ | ⟨k', h1, h2, h3, h4⟩
                · omega
                · obtain rfl : k' = k := by omega
                  exact h4
              clear hr
              subst t4
              go_wp2
              go_roundw
              case rel => exact ⟨k + 1, by omega, by go_num, J1.out, B1.out, fun j hj => by by_cases e : j = k; (subst e; exact ⟨T1.out, T2.out, T3.out, T4.out⟩); exact HA.out j (by omega)⟩
              case measure => simp [intOf]; omega
            · have HF : Hid (repoOk cs hs = false) := LC.out (∀ j, j < k → mg cs j ≠ mg cs k) (fun h => by
                rcases hr with ⟨h1, h2⟩ | ⟨k', h1, h2, h3, h4⟩
                · exact h2 k hlt rfl
                · by_cases q : k' < k
                  · exact h k' q h3
                  · by_cases q' : k < k'
                    · exact h4 k q' rfl
                    · exact t4 (by omega)) fun g => (g.cms k hlt).once
              clear hr
              have e4 : (r != (k : Int)) = true := by simpa using t4
              go_wp2
              go_ret
              exact ⟨by rw [HF.out]; rfl, B1.out⟩
          · have HF : Hid (repoOk cs hs = false) := LC.out (wordOk (mg cs k).2.2 = true) t3 fun g => (g.cms k hlt).note
            rw [Bool.not_eq_true] at t3
            rw [t3]
            clear t3
            go_wp2
            go_ret
            exact ⟨by rw [HF.out]; rfl, B1.out⟩
        · have HF : Hid (repoOk cs hs = false) := LC.out (sheetOk (mg cs k).2.1 = true) t2 fun g => (g.cms k hlt).sheet
          rw [Bool.not_eq_true] at t2
          rw [t2]
          clear t2
          go_wp2
          go_ret
          exact ⟨by rw [HF.out]; rfl, B1.out⟩
      · have HF : Hid (repoOk cs hs = false) := LC.out (UpOk (mg cs k).1 k) t1 fun g => (g.cms k hlt).up
        rw [upB_false t1]
        clear t1
        go_wp2
        go_ret
        exact ⟨by rw [HF.out]; rfl, B1.out⟩
    · obtain rfl : k = cs.length := by omega
      go_wp2
      clear r0 r1 hbel
      go_loopw [5, 6] (fun i _ wx => ∃ k : Nat, k ≤ hs.length ∧ i = .int .i64 k ∧ BK wx w.heap.size #[.slice a cs.length ca, .slice b hs.length cb] 46 ∧ Below w.heap.size w wx ∧ ∀ j, j < k → HdGood hs cs.length j) (fun i _ _ => hs.length - (intOf i).toNat)
      case atStart => exact ⟨0, Nat.zero_le _, rfl, K1.out, HB.out, fun j h => absurd h (Nat.not_lt_zero _)⟩
      case round =>
        clear K1 HB hsz z1
        obtain ⟨k, hk, rfl, hk1, hbel, hall⟩ := hrel
        have HG := Lib.hid hall
        have HB := Lib.hid hbel
        have K1 := Lib.hid hk1
        have hsz := hbel.size
        have r0 := hk1.cell 0 rfl
        have r1 := hk1.cell 1 rfl
        have z1 := hk1.lt
        clear hall hk1
        by_cases hlt : k < hs.length
        · obtain ⟨b', off, e', hb, hc1, hc2⟩ := HR.out.hds k hlt
          rw [← hbel.cell (p := ⟨b', _, none⟩) hb] at hc1 hc2
          have hn := L4.out k hlt
          subst e'
          clear hbel
          have A2 : Hid (∀ o, Below wr.heap.size wr (wr.alloc o)) := fun o => (Below.refl _ _).alloc (Nat.le_refl _) _
          go_wp2_with fail
          clear hc1 hc2
          refine (specWordOk_any _ _ (by omega)).mono ?_
          rintro e w1 ⟨rfl, e1⟩
          have hb1 : Below wr.heap.size wr w1 := by rw [e1]; exact A2.out _
          have q0 : w1.cell? ⟨wr.heap.size, 0, none⟩ = some (.string (hdn hs k)) := by rw [e1]; simp [go_sem]
          have q1 : w1.cell? ⟨wr.heap.size, 1, none⟩ = some (.int .i64 (hda hs k)) := by rw [e1]; simp [go_sem]
          clear e1
          have J1 : Hid (BK w1 w.heap.size #[.slice a cs.length ca, .slice (some ⟨b', off, none⟩) hs.length cb] 46) := K1.out.later hb1
          have B1 : Hid (Below w.heap.size w w1) := HB.out.trans (hb1.mono hsz)
          have C1 := Lib.hid (HR.out.hds.below B1.out)
          clear hb1 A2 r0 r1
          by_cases t1 : wordOk (hdn hs k) = true
          · rw [t1]
            have T1 := Lib.hid t1
            clear t1
            have r0 := J1.out.cell 0 rfl
            have r1 := J1.out.cell 1 rfl
            go_wp2_with fail
            clear r0 r1
            refine (l7Head_any _ _ _ _ _ _ _ _ C1.out (by omega)).mono ?_
            rintro e w2 ⟨⟨r, rfl, hr⟩, hb2⟩
            replace q1 := cell_later hb2 q1
            replace J1 : Hid (BK w2 _ _ _) := J1.out.later hb2
            replace B1 : Hid (Below w.heap.size w w2) := B1.out.trans (hb2.mono B1.out.size)
            clear hb2 C1 q0
            have r0 := J1.out.cell 0 rfl
            by_cases t2 : r = k
            · have T2 : Hid (∀ j, j < k → hdn hs j ≠ hdn hs k) := by
                subst t2
                rcases hr with ⟨h1, _⟩ | ⟨k', h1, h2, h3, h4⟩
                · omega
                · obtain rfl : k' = k := by omega
                  exact h4
              clear hr
              subst t2
              by_cases t3 : hda hs k < 0
              · have HF : Hid (repoOk cs hs = false) := LC.out (0 ≤ hda hs k) (by omega) fun g => (g.hds k hlt).lo
                go_wp2
                go_ret
                exact ⟨by rw [HF.out]; rfl, B1.out⟩
              · by_cases t4 : (cs.length : Int) ≤ hda hs k
                · have HF : Hid (repoOk cs hs = false) := LC.out (hda hs k < cs.length) (by omega) fun g => (g.hds k hlt).hi
                  go_wp2
                  go_ret
                  exact ⟨by rw [HF.out]; rfl, B1.out⟩
                · go_wp2
                  go_roundw
                  case rel => exact ⟨k + 1, by omega, by go_num, J1.out, B1.out, fun j hj => by by_cases e : j = k; (subst e; exact ⟨T1.out, T2.out, by omega, by omega⟩); exact HG.out j (by omega)⟩
                  case measure => simp [intOf]; omega
            · have HF : Hid (repoOk cs hs = false) := LC.out (∀ j, j < k → hdn hs j ≠ hdn hs k) (fun h => by
                rcases hr with ⟨h1, h2⟩ | ⟨k', h1, h2, h3, h4⟩
                · exact h2 k hlt rfl
                · by_cases q : k' < k
                  · exact h k' q h3
                  · by_cases q' : k < k'
                    · exact h4 k q' rfl
                    · exact t2 (by omega)) fun g => (g.hds k hlt).once
              clear hr
              have e4 : (r != (k : Int)) = true := by simpa using t2
              go_wp2
              go_ret
              exact ⟨by rw [HF.out]; rfl, B1.out⟩
          · have HF : Hid (repoOk cs hs = false) := LC.out (wordOk (hdn hs k) = true) t1 fun g => (g.hds k hlt).name
            rw [Bool.not_eq_true] at t1
            rw [t1]
            clear t1
            go_wp2
            go_ret
            exact ⟨by rw [HF.out]; rfl, B1.out⟩
        · obtain rfl : k = hs.length := by omega
          have HF : Hid (repoOk cs hs = true) := repoOk_true ⟨by omega, by omega, by omega, by omega, HA.out, HG.out⟩
          clear hbel
          go_wp2
          go_ret
          exact ⟨by rw [HF.out]; rfl, HB.out⟩
end Go.Proofs.YtdfadpejddhbkaaGreat

namespace Go.Proofs.YtdfadpejddhbkaaGreat
set_option linter.unusedVariables false
open Go.ChangeShapes Go.WideShapes Go.ChangeAt Go.RowKit

theorem isPlace_any (x n : Int) (w : World) :
    Calls Tryz.prog 77 #[.int .i64 x, .int .i64 n] w fun e w' => e = .returned (.bool (decide (0 ≤ x ∧ x < n))) ∧ w' = w := by
  by_cases h1 : 0 ≤ x
  · by_cases h2 : x < n
    · go_enter Tryz.func77, Tryz.ntmps77
      go_wp2
      go_ret
      exact ⟨by simp [h1, h2], rfl⟩
    · go_enter Tryz.func77, Tryz.ntmps77
      go_wp2
      go_ret
      exact ⟨by simp [h2], rfl⟩
  · go_enter Tryz.func77, Tryz.ntmps77
    go_wp2
    go_ret
    exact ⟨by simp; omega, rfl⟩

set_option maxRecDepth 100000 in
set_option maxHeartbeats 4000000 in
theorem commitPlace1_any (cp d : Cm) (b : Nat) (ua' sa' : Option Addr) (uc' sc' : Nat) (ua sa : Option Addr) (uc sc : Nat) (w : World) (hb : b < w.heap.size)
    (hc : BK w b #[.slice ua cp.1.length uc, .slice sa cp.2.1.length sc, .string cp.2.2] 54) (hi : IntsAt w ua cp.1) (hf : FeatsAt w sa cp.2.1) (hi' : IntsAt w ua' d.1) (hf' : FeatsAt w sa' d.2.1) (hl : CmLen cp 1048576) (hl' : CmLen d 1048576) :
    Calls Tryz.prog 178 #[.agg #[.slice ua' d.1.length uc', .slice sa' d.2.1.length sc', .string d.2.2], .pointer (some ⟨b, 0, none⟩)] w fun e w' => e = .returned (.bool (cmEq cp d)) ∧ Below w.heap.size w w' := by
  have HI := Lib.hid hi
  have HF := Lib.hid hf
  have HI' := Lib.hid hi'
  have HF' := Lib.hid hf'
  have A1 : Hid (∀ o n, Below w.heap.size w ((w.alloc o).drewN n)) := fun o n => below_drewN ((Below.refl _ _).alloc (Nat.le_refl _) _) n
  have q0 := hc.cell 0 rfl
  have q1 := hc.cell 1 rfl
  have q2 := hc.cell 2 rfl
  clear hi hf hi' hf' hc
  go_enter Tryz.func178, Tryz.ntmps178
  go_wp2_with fail
  refine (commitSame_any _ _ _ _ _ _ _ _ _ _ _ (HI.out.below (A1.out _ 0)) (HF.out.below (A1.out _ 0)) (HI'.out.below (A1.out _ 0)) (HF'.out.below (A1.out _ 0)) hl hl').mono ?_
  rintro e w1 ⟨rfl, hb1⟩
  have B1 : Hid (Below w.heap.size w w1) := (A1.out _ 0).trans (hb1.mono (by simp))
  clear hb1 q0 q1 q2
  go_wp2
  go_ret
  exact ⟨rfl, B1.out⟩

set_option maxRecDepth 100000 in
set_option maxHeartbeats 4000000 in
theorem indexFuncC_any (a : Option Addr) (cap : Nat) (cs : List Cm) (c : Cm) (b : Nat) (ua sa : Option Addr) (uc sc : Nat) (w : World) (hb : b < w.heap.size)
    (hc : BK w b #[.slice ua c.1.length uc, .slice sa c.2.1.length sc, .string c.2.2] 54) (hi : IntsAt w ua c.1) (hf : FeatsAt w sa c.2.1) (hcs : CommitsAt w a cs) (hl : cs.length ≤ 1048576) (hL : CmsLen cs 1048576) (hcl : CmLen c 1048576) :
    Calls Tryz.prog 177 #[.slice a cs.length cap, .func (Fn.func 178) #[] #[.pointer (some ⟨b, 0, none⟩)]] w fun e w' => (∃ r, e = .returned (.int .i64 r) ∧ FirstCm cs c r) ∧ Below w.heap.size w w' := by
  have HC := Lib.hid hcs
  have HL := Lib.hid hL
  have HI := Lib.hid hi
  have HF := Lib.hid hf
  have HCL := Lib.hid hcl
  have HK := Lib.hid hc
  clear hcs hL hi hf hcl hc
  go_enter Tryz.func177, Tryz.ntmps177
  go_wp2
  go_loopw [5, 8] (fun _ i wr => ∃ k : Nat, k ≤ cs.length ∧ i = .int .i64 k ∧ Below w.heap.size w wr ∧ ∀ j, j < k → mg cs j ≠ c) (fun _ i _ => cs.length - (intOf i).toNat)
  case atStart => exact ⟨0, Nat.zero_le _, rfl, Below.refl _ _, fun j h => absurd h (Nat.not_lt_zero _)⟩
  case round =>
    obtain ⟨k, hk, rfl, hbel, hall⟩ := hrel
    have HA := Lib.hid hall
    have HB := Lib.hid hbel
    have hsz := hbel.size
    clear hall
    by_cases hlt : k < cs.length
    · obtain ⟨b', off, ua', uc', sa', sc', e', hx⟩ := HC.out k hlt
      obtain ⟨zb, c0, c1, c2, hii, hff⟩ := hx.below hbel
      have D1 := Lib.hid hii
      have D2 := Lib.hid hff
      clear hbel hii hff hx
      subst e'
      go_wp2_with fail
      clear c0 c1 c2
      refine (commitPlace1_any c (mg cs k) b _ _ _ _ _ _ _ _ _ (by omega) (HK.out.later HB.out) (HI.out.below HB.out) (HF.out.below HB.out) D1.out D2.out HCL.out (HL.out k hlt)).mono ?_
      rintro e w1 ⟨rfl, hb1⟩
      have B1 : Hid (Below w.heap.size w w1) := HB.out.trans (hb1.mono hsz)
      clear hb1
      by_cases h : c = mg cs k
      · rw [show cmEq c (mg cs k) = true from cmEq_iff.2 h]
        have HG : Hid (FirstCm cs c k) := .inr ⟨k, rfl, hlt, h.symm, HA.out⟩
        clear h
        go_wp2
        go_ret
        exact ⟨⟨_, rfl, HG.out⟩, B1.out⟩
      · rw [show cmEq c (mg cs k) = false from cmEq_no h]
        have HG := Lib.hid h
        clear h
        go_wp2
        go_roundw
        case rel => exact ⟨k + 1, by omega, by go_num, B1.out, fun j hj => by by_cases e : j = k; (subst e; exact fun h => HG.out h.symm); exact HA.out j (by omega)⟩
        case measure => simp [intOf]; omega
    · obtain rfl : k = cs.length := by omega
      clear hbel
      go_wp2
      go_ret
      exact ⟨⟨_, rfl, .inl ⟨rfl, HA.out⟩⟩, HB.out⟩

set_option maxRecDepth 100000 in
set_option maxHeartbeats 4000000 in
theorem commitPlace_any (a : Option Addr) (cap : Nat) (cs : List Cm) (c : Cm) (ua sa : Option Addr) (uc sc : Nat) (w : World)
    (hi : IntsAt w ua c.1) (hf : FeatsAt w sa c.2.1) (hcs : CommitsAt w a cs) (hl : cs.length ≤ 1048576) (hL : CmsLen cs 1048576) (hcl : CmLen c 1048576) :
    Calls Tryz.prog 145 #[.slice a cs.length cap, .agg #[.slice ua c.1.length uc, .slice sa c.2.1.length sc, .string c.2.2]] w fun e w' => (∃ r, e = .returned (.int .i64 r) ∧ FirstCm cs c r) ∧ Below w.heap.size w w' := by
  have HC := Lib.hid hcs
  have HI := Lib.hid hi
  have HF := Lib.hid hf
  have HL := Lib.hid hL
  have HCL := Lib.hid hcl
  clear hcs hi hf hL hcl
  have A1 : Hid (∀ o, Below w.heap.size w (w.alloc o)) := fun o => (Below.refl _ _).alloc (Nat.le_refl _) _
  go_enter Tryz.func145, Tryz.ntmps145
  go_wp2_with fail
  refine (indexFuncC_any _ _ cs c w.heap.size ua sa uc sc _ (by simp) (BK.new _ _ _) (HI.out.below (A1.out _)) (HF.out.below (A1.out _)) (HC.out.below (A1.out _)) hl HL.out HCL.out).mono ?_
  rintro e w1 ⟨⟨r, rfl, hr⟩, hb1⟩
  have B1 : Hid (Below w.heap.size w w1) := (A1.out _).trans (hb1.mono (by simp))
  have R := Lib.hid hr
  clear hb1 hr
  go_wp2
  go_ret
  exact ⟨⟨_, rfl, R.out⟩, B1.out⟩
end Go.Proofs.YtdfadpejddhbkaaGreat

namespace Go.Proofs.YtdfadpejddhbkaaGreat
set_option linter.unusedVariables false
open Go.ChangeShapes Go.WideShapes Go.ChangeAt Go.RowKit

theorem isPlace_is {x n : Int} {b : Bool} (h : decide (0 ≤ x ∧ x < n) = b) (w : World) :
    Calls Tryz.prog 77 #[.int .i64 x, .int .i64 n] w fun e w' => e = .returned (.bool b) ∧ w' = w := by
  subst h
  exact isPlace_any x n w

set_option maxRecDepth 100000 in
set_option maxHeartbeats 4000000 in
theorem upOk_any (a : Option Addr) (cap : Nat) (up : List Int) (k : Nat) (w : World) (hp : IntsAt w a up) (hl : up.length ≤ 1048576) (hk : k ≤ 1048576) :
    Calls Tryz.prog 167 #[.slice a up.length cap, .int .i64 k] w fun e w' => e = .returned (.bool (upB up k)) ∧ ∃ n, w' = w.drewN n := by
  have HP := Lib.hid hp
  clear hp
  have hcase : up.length = 0 ∨ up.length = 1 ∨ up.length = 2 ∨ 2 < up.length := by omega
  generalize hn : up.length = n at hcase ⊢
  have HN := Lib.hid hn
  rcases hcase with rfl | rfl | rfl | q
  · clear hn
    by_cases hz : k = 0
    · have HF : Hid (upB up k = true) := upB_true ⟨fun i hi => absurd hi (by have := HN.out; omega), by have := HN.out; omega, by have := HN.out; omega, fun h => absurd h (by have := HN.out; omega)⟩
      have e : ((k : Int) == 0) = true := by simp [hz]
      clear hz
      go_enter Tryz.func167, Tryz.ntmps167
      go_wp2
      go_ret
      exact ⟨by rw [HF.out]; rfl, 0, rfl⟩
    · have HF : Hid (upB up k = false) := upB_false fun h => by have := h.2.2.1.2 (by omega); have := HN.out; omega
      have e : ((k : Int) == 0) = false := by simp [hz]
      clear hz
      go_enter Tryz.func167, Tryz.ntmps167
      go_wp2
      go_ret
      exact ⟨by rw [HF.out]; rfl, 0, rfl⟩
  · obtain ⟨b, off, rfl, hb, c0⟩ := HP.out 0 (by omega)
    simp only [Nat.add_zero] at c0
    clear hn
    have HF : Hid (decide (0 ≤ ix up 0 ∧ ix up 0 < k) = upB up k) := by
      rw [Hid, Bool.eq_iff_iff, upB_iff, decide_eq_true_iff]
      have := HN.out
      exact ⟨fun h => ⟨fun i hi => by obtain rfl : i = 0 := by omega
                                      exact h, by omega, by omega, fun h => absurd h (by omega)⟩, fun h => h.1 0 (by omega)⟩
    go_enter Tryz.func167, Tryz.ntmps167
    go_wp2_with fail
    refine (isPlace_is HF.out _).mono ?_
    rintro e w1 ⟨rfl, rfl⟩
    go_wp2
    go_ret
    exact ⟨rfl, 0, rfl⟩
  · obtain ⟨b, off, rfl, hb, c0⟩ := HP.out 0 (by omega)
    obtain ⟨b', off', e, hb', c1⟩ := HP.out 1 (by omega)
    obtain ⟨rfl, rfl⟩ : b = b' ∧ off = off' := by simpa using e
    simp only [Nat.add_zero] at c0
    clear hn
    have HF : Hid (∀ p0 p1 p5 : Bool, decide (0 ≤ ix up 0 ∧ ix up 0 < k) = p0 → decide (0 ≤ ix up 1 ∧ ix up 1 < k) = p1 → (ix up 0 != ix up 1) = p5 → upB up k = (p5 && p0 && p1)) := by
      rintro p0 p1 p5 rfl rfl rfl
      rw [Bool.eq_iff_iff, upB_iff]
      have := HN.out
      simp only [Bool.and_eq_true, decide_eq_true_iff, bne_iff_ne, ne_eq]
      constructor
      · exact fun h => ⟨⟨h.2.2.2 this, h.1 0 (by omega)⟩, h.1 1 (by omega)⟩
      · rintro ⟨⟨h1, h2⟩, h3⟩
        exact ⟨fun i hi => by
          have hi' : i = 0 ∨ i = 1 := by omega
          rcases hi' with rfl | rfl
          · exact h2
          · exact h3, by omega, by omega, fun _ => h1⟩
    generalize e5 : (ix up 0 != ix up 1) = p5
    generalize e0 : decide (0 ≤ ix up 0 ∧ ix up 0 < (k : Int)) = p0
    generalize e1 : decide (0 ≤ ix up 1 ∧ ix up 1 < (k : Int)) = p1
    replace HF := Lib.hid (HF.out _ _ _ e0 e1 e5)
    generalize ix up 0 = x0 at e0 e5 c0
    generalize ix up 1 = x1 at e1 e5 c1
    cases p5
    · go_enter Tryz.func167, Tryz.ntmps167
      go_wp2
      go_quiet (fail)
      go_wp2
      go_ret
      exact ⟨by rw [HF.out]; rfl, _, rfl⟩
    · cases p0
      · go_enter Tryz.func167, Tryz.ntmps167
        go_wp2
        go_quiet ((go_at_call 77; exact (isPlace_is e0 _).mono fun _ _ h => ⟨h.1, _, h.2⟩))
        go_wp2
        go_ret
        exact ⟨by rw [HF.out]; rfl, _, rfl⟩
      · go_enter Tryz.func167, Tryz.ntmps167
        go_wp2
        go_quiet ((go_at_call 77; first | (with_reducible exact (isPlace_is e0 _).mono fun _ _ h => ⟨h.1, _, h.2⟩) | (with_reducible exact (isPlace_is e1 _).mono fun _ _ h => ⟨h.1, _, h.2⟩)))
        go_wp2
        go_ret
        exact ⟨by rw [HF.out]; rfl, _, rfl⟩
  · clear hn
    have HF : Hid (upB up k = false) := upB_false fun h => by have := h.2.1; have := HN.out; omega
    have b0 : ((n : Int) == 0) = false := by simp; omega
    have b1 : ((n : Int) == 1) = false := by simp; omega
    have b2 : ((n : Int) == 2) = false := by simp; omega
    clear q
    go_enter Tryz.func167, Tryz.ntmps167
    go_wp2
    go_ret
    exact ⟨by rw [HF.out]; rfl, 0, rfl⟩

/-- the first branches are right -/
def HeadsGood (hs : List Hd) (n : Nat) : Prop := 1 ≤ hs.length ∧ hs.length ≤ 4 ∧ ∀ i, i < hs.length → HdGood hs n i

open Classical in
noncomputable def headsB (hs : List Hd) (n : Nat) : Bool := decide (HeadsGood hs n)

set_option maxRecDepth 100000 in
set_option maxHeartbeats 4000000 in
theorem headsOk_any (a : Option Addr) (cap : Nat) (hs : List Hd) (n : Nat) (w : World) (hp : HeadsAt w a hs) (hl : hs.length ≤ 1048576) (ht : HeadsLen hs 1048576) (hn : n ≤ 1048576) :
    Calls Tryz.prog 132 #[.slice a hs.length cap, .int .i64 n] w fun e w' => e = .returned (.bool (headsB hs n)) ∧ Below w.heap.size w w' := by
  have HP := Lib.hid hp
  have HT := Lib.hid ht
  clear hp ht
  have LC : Hid (∀ (p : Prop), (¬ p) → (HeadsGood hs n → p) → headsB hs n = false) := fun _ h k => by simp [headsB]; exact fun g => h (k g)
  by_cases g1 : (hs.length : Int) < 1
  · have HF : Hid _ := LC.out (1 ≤ hs.length) (by omega) fun g => g.1
    go_enter Tryz.func132, Tryz.ntmps132
    go_wp2
    go_ret
    exact ⟨by rw [HF.out]; rfl, Below.refl _ _⟩
  by_cases g2 : (hs.length : Int) > 4
  · have HF : Hid _ := LC.out (hs.length ≤ 4) (by omega) fun g => g.2.1
    go_enter Tryz.func132, Tryz.ntmps132
    go_wp2
    go_ret
    exact ⟨by rw [HF.out]; rfl, Below.refl _ _⟩
  go_enter Tryz.func132, Tryz.ntmps132
  go_wp2
  go_loopw [6, 17] (fun _ i wr => ∃ k : Nat, k ≤ hs.length ∧ i = .int .i64 k ∧ Below w.heap.size w wr ∧ ∀ j, j < k → wordOk (hdn hs j) = true ∧ 0 ≤ hda hs j ∧ hda hs j < n) (fun _ i _ => hs.length - (intOf i).toNat)
  case atStart => exact ⟨0, Nat.zero_le _, rfl, Below.refl _ _, fun j h => absurd h (Nat.not_lt_zero _)⟩
  case round =>
    obtain ⟨k, hk, rfl, hbel, hall⟩ := hrel
    have HA := Lib.hid hall
    have HB := Lib.hid hbel
    have hsz := hbel.size
    clear hall
    by_cases hlt : k < hs.length
    · obtain ⟨b, off, e', hb, hc1, hc2⟩ := HP.out k hlt
      rw [← hbel.cell (p := ⟨b, _, none⟩) hb] at hc1 hc2
      have hw := HT.out k hlt
      subst e'
      clear hbel
      have A2 : Hid (∀ o, Below wr.heap.size wr (wr.alloc o)) := fun o => (Below.refl _ _).alloc (Nat.le_refl _) _
      go_wp2_with fail
      clear hc1 hc2
      refine (implWordOk_any _ _ (by omega)).mono ?_
      rintro e w1 ⟨rfl, hb1⟩
      have q1 := cell_later hb1 (a := ⟨wr.heap.size, 1, none⟩) (v := .int .i64 (hda hs k)) (by simp [go_sem])
      have B1 : Hid (Below w.heap.size w w1) := HB.out.trans (((A2.out _).trans (hb1.mono (by simp))).mono hsz)
      clear hb1 A2
      by_cases t1 : wordOk (hdn hs k) = true
      · rw [t1]
        have T1 := Lib.hid t1
        clear t1
        go_wp2_with fail
        clear q1
        refine (isPlace_any _ _ _).mono ?_
        rintro e w2 ⟨rfl, rfl⟩
        by_cases t2 : 0 ≤ hda hs k ∧ hda hs k < n
        · rw [decide_eq_true t2]
          have T2 := Lib.hid t2
          clear t2
          go_wp2
          go_roundw
          case rel => exact ⟨k + 1, by omega, by go_num, B1.out, fun j hj => by by_cases e : j = k; (subst e; exact ⟨T1.out, T2.out.1, T2.out.2⟩); exact HA.out j (by omega)⟩
          case measure => simp [intOf]; omega
        · have HF : Hid _ := LC.out _ t2 fun g => ⟨(g.2.2 k hlt).lo, (g.2.2 k hlt).hi⟩
          rw [decide_eq_false t2]
          clear t2
          go_wp2
          go_ret
          exact ⟨by rw [HF.out]; rfl, B1.out⟩
      · have HF : Hid _ := LC.out _ t1 fun g => (g.2.2 k hlt).name
        rw [Bool.not_eq_true] at t1
        rw [t1]
        clear t1
        go_wp2
        go_ret
        exact ⟨by rw [HF.out]; rfl, B1.out⟩
    · obtain rfl : k = hs.length := by omega
      clear hbel
      go_wp2_with fail
      refine (headsByName_any _ _ _ _ (HP.out.below HB.out) hl (HT.out.mono (by omega))).mono ?_
      rintro e w1 ⟨rfl, hown, hb1⟩
      have B1 : Hid (Below w.heap.size w w1) := HB.out.trans (hb1.mono hsz)
      have hlen := hown.len Tryz.underlying131 3
      clear hb1
      by_cases t : Maps.size (mapH hs hs.length) = hs.length
      · have HF : Hid (headsB hs n = true) := by
          have ha := (size_mapH hs hs.length).1 t
          rw [Hid]
          simp [headsB]
          exact ⟨by omega, by omega, fun i hi => ⟨(HA.out i hi).1, fun j hj => ha i j hj hi, (HA.out i hi).2.1, (HA.out i hi).2.2⟩⟩
        have e1 : ((Maps.size (mapH hs hs.length) : Int) == (hs.length : Int)) = true := by simp [t]
        clear t hown
        go_wp2
        go_ret
        exact ⟨by rw [HF.out]; rfl, B1.out⟩
      · have HF : Hid _ := LC.out _ t fun g => (size_mapH hs hs.length).2 fun i j hj hi => (g.2.2 i hi).once j hj
        have e1 : ((Maps.size (mapH hs hs.length) : Int) == (hs.length : Int)) = false := by simp; omega
        clear t hown
        go_wp2
        go_ret
        exact ⟨by rw [HF.out]; rfl, B1.out⟩
end Go.Proofs.YtdfadpejddhbkaaGreat

namespace Go.Proofs.YtdfadpejddhbkaaGreat
set_option linter.unusedVariables false
open Go.ChangeShapes Go.WideShapes Go.ChangeAt Go.RowKit

/-- the versions are right -/
def CmsGood (cs : List Cm) : Prop := 1 ≤ cs.length ∧ cs.length ≤ 14 ∧ ∀ i, i < cs.length → CmGood cs i

open Classical in
noncomputable def cmsB (cs : List Cm) : Bool := decide (CmsGood cs)

theorem mg_take {cs : List Cm} {k i : Nat} (h : i < k) : mg (cs.take k) i = mg cs i := by
  unfold mg
  rw [List.getD_eq_getElem?_getD, List.getD_eq_getElem?_getD, List.getElem?_take_of_lt h]

theorem CommitsAt.take {w : World} {a : Option Addr} {cs : List Cm} {k : Nat} (h : CommitsAt w a cs) : CommitsAt w a (cs.take k) := by
  intro i hi
  rw [List.length_take] at hi
  rw [mg_take (by omega)]
  exact h i (by omega)

theorem CmsLen.take {cs : List Cm} {k : Nat} {m : Int} (h : CmsLen cs m) : CmsLen (cs.take k) m := by
  intro i hi
  rw [List.length_take] at hi
  rw [mg_take (by omega)]
  exact h i (by omega)

set_option maxRecDepth 100000 in
set_option maxHeartbeats 16000000 in
theorem commitsOk_any (a : Option Addr) (cap : Nat) (cs : List Cm) (w : World) (hp : CommitsAt w a cs) (hl : cs.length ≤ 1048576) (ht : CmsLen cs 1048576) (hcap : cs.length ≤ cap) :
    Calls Tryz.prog 131 #[.slice a cs.length cap] w fun e w' => e = .returned (.bool (cmsB cs)) ∧ Below w.heap.size w w' := by
  have HP := Lib.hid hp
  have HT := Lib.hid ht
  clear hp ht
  have LC : Hid (∀ (p : Prop), (¬ p) → (CmsGood cs → p) → cmsB cs = false) := fun _ h k => by simp [cmsB]; exact fun g => h (k g)
  by_cases g1 : (cs.length : Int) < 1
  · have HF : Hid _ := LC.out (1 ≤ cs.length) (by omega) fun g => g.1
    go_enter Tryz.func131, Tryz.ntmps131
    go_wp2
    go_ret
    exact ⟨by rw [HF.out]; rfl, Below.refl _ _⟩
  by_cases g2 : (cs.length : Int) > 14
  · have HF : Hid _ := LC.out (cs.length ≤ 14) (by omega) fun g => g.2.1
    go_enter Tryz.func131, Tryz.ntmps131
    go_wp2
    go_ret
    exact ⟨by rw [HF.out]; rfl, Below.refl _ _⟩
  go_enter Tryz.func131, Tryz.ntmps131
  go_wp2
  go_loopw [3, 4, 15] (fun _ _ i wr => ∃ k : Nat, k ≤ cs.length ∧ i = .int .i64 k ∧ Below w.heap.size w wr ∧ ∀ j, j < k → CmGood cs j) (fun _ _ i _ => cs.length - (intOf i).toNat)
  case atStart => exact ⟨0, Nat.zero_le _, rfl, Below.refl _ _, fun j h => absurd h (Nat.not_lt_zero _)⟩
  case round =>
    obtain ⟨k, hk, rfl, hbel, hall⟩ := hrel
    have HA := Lib.hid hall
    have HB := Lib.hid hbel
    have hsz := hbel.size
    clear hall
    by_cases hlt : k < cs.length
    · obtain ⟨b, off, ua, uc, sa, sc, e', hx⟩ := HP.out k hlt
      obtain ⟨zb, c0, c1, c2, hii, hff⟩ := hx.below hbel
      have HI := Lib.hid hii
      have HF0 := Lib.hid hff
      clear hbel hx hii hff
      subst e'
      go_wp2
      have hW : Below wr.heap.size wr (wr.alloc (.cells #[.slice ua (mg cs k).1.length uc, .slice sa (mg cs k).2.1.length sc, .string (mg cs k).2.2] 54)) := (Below.refl _ _).alloc (Nat.le_refl _) _
      have hz := World.size_alloc wr (.cells #[.slice ua (mg cs k).1.length uc, .slice sa (mg cs k).2.1.length sc, .string (mg cs k).2.2] 54)
      have q0 : (wr.alloc (.cells #[.slice ua (mg cs k).1.length uc, .slice sa (mg cs k).2.1.length sc, .string (mg cs k).2.2] 54)).cell? ⟨wr.heap.size, 0, none⟩ = some (.slice ua (mg cs k).1.length uc) := by simp [go_sem]
      have q1 : (wr.alloc (.cells #[.slice ua (mg cs k).1.length uc, .slice sa (mg cs k).2.1.length sc, .string (mg cs k).2.2] 54)).cell? ⟨wr.heap.size, 1, none⟩ = some (.slice sa (mg cs k).2.1.length sc) := by simp [go_sem]
      have q2 : (wr.alloc (.cells #[.slice ua (mg cs k).1.length uc, .slice sa (mg cs k).2.1.length sc, .string (mg cs k).2.2] 54)).cell? ⟨wr.heap.size, 2, none⟩ = some (.string (mg cs k).2.2) := by simp [go_sem]
      clear c0 c1 c2
      generalize wr.alloc (.cells #[.slice ua (mg cs k).1.length uc, .slice sa (mg cs k).2.1.length sc, .string (mg cs k).2.2] 54) = W1 at hW hz q0 q1 q2 ⊢
      have z0 : wr.heap.size < W1.heap.size := by omega
      have B1 : Hid (Below w.heap.size w W1) := HB.out.trans (hW.mono hsz)
      have I1 := Lib.hid (HI.out.below hW)
      have F1 := Lib.hid (HF0.out.below hW)
      have C1 := Lib.hid (HP.out.below B1.out)
      have M := HT.out k hlt
      have U1 : Hid (∀ u, Below W1.heap.size W1 u → Calls Tryz.prog 167 #[.slice ua (mg cs k).1.length uc, .int .i64 k] u fun e w' => e = .returned (.bool (upB (mg cs k).1 k)) ∧ Below u.heap.size u w') := fun u hu =>
        (upOk_any _ _ _ _ _ (I1.out.below hu) (by have := M.1; omega) (by omega)).mono fun e w' h => ⟨h.1, by obtain ⟨n, h2⟩ := h.2; rw [h2]; exact below_drewN (Below.refl _ _) n⟩
      have U2 : Hid (∀ u, Below W1.heap.size W1 u → Calls Tryz.prog 22 #[.slice sa (mg cs k).2.1.length sc] u fun e w' => e = .returned (.bool (sheetOk (mg cs k).2.1)) ∧ Below u.heap.size u w') := fun u hu =>
        implSheetOk_any _ _ _ _ (F1.out.below hu) (by have := M.2.1; omega) M.2.2.1
      have U3 : Hid (∀ u, Below W1.heap.size W1 u → Calls Tryz.prog 96 #[.string (mg cs k).2.2] u fun e w' => e = .returned (.bool (wordOk (mg cs k).2.2)) ∧ Below u.heap.size u w') := fun u hu =>
        implWordOk_any _ _ (by have := M.2.2.2; omega)
      have U4 : Hid (∀ u cp, Below W1.heap.size W1 u → Calls Tryz.prog 145 #[.slice (some ⟨b, off, none⟩) k cp, .agg #[.slice ua (mg cs k).1.length uc, .slice sa (mg cs k).2.1.length sc, .string (mg cs k).2.2]] u fun e w' => (∃ r, e = .returned (.int .i64 r) ∧ FirstCm (cs.take k) (mg cs k) r) ∧ Below u.heap.size u w') := fun u cp hu => by
        have := commitPlace_any (some ⟨b, off, none⟩) cp (cs.take k) (mg cs k) ua sa uc sc u (I1.out.below hu) (F1.out.below hu) ((C1.out.below hu).take) (by rw [List.length_take]; omega) HT.out.take M
        rwa [show (cs.take k).length = k by rw [List.length_take]; omega] at this
      have hk0 : (0 : Int) ≤ (k : Int) := by omega
      have hkc : (k : Int) ≤ (cap : Int) := by omega
      clear hW hz HI HF0 M I1 F1 C1
      by_cases t1 : UpOk (mg cs k).1 k
      · rw [upB_true t1] at U1
        by_cases t2 : sheetOk (mg cs k).2.1 = true
        · rw [t2] at U2
          by_cases t3 : wordOk (mg cs k).2.2 = true
          · rw [t3] at U3
            by_cases t4 : ∀ j, j < k → mg cs j ≠ mg cs k
            · have HG : Hid (CmGood cs k) := ⟨t1, t2, t3, t4⟩
              have R4 : Hid (∀ r, FirstCm (cs.take k) (mg cs k) r → r = -1) := fun r h => by
                rcases h with ⟨h, _⟩ | ⟨j, h1, h2, h3, _⟩
                · exact h
                · rw [List.length_take] at h2
                  rw [mg_take (by omega)] at h3
                  exact absurd h3 (t4 j (by omega))
              clear t1 t2 t3 t4
              go_cut [44] (fun s44 wx => s44 = .bool false ∧ Below w.heap.size w wx)
              case first =>
                first
                  | go_region_held3 (fun w' => w'.cell? ⟨wr.heap.size, 0, none⟩ = some (.slice ua (mg cs k).1.length uc) ∧ w'.cell? ⟨wr.heap.size, 1, none⟩ = some (.slice sa (mg cs k).2.1.length sc) ∧ w'.cell? ⟨wr.heap.size, 2, none⟩ = some (.string (mg cs k).2.2) ∧ Below W1.heap.size W1 w')
                      (first
                        | (with_reducible assumption)
                        | (go_split_ands
                           rename_i hS0 hS1 hS2 hS3
                           with_reducible exact ⟨cell_later hbn hS0, cell_later hbn hS1, cell_later hbn hS2, hS3.trans (hbn.mono hS3.size)⟩)
                        | exact ⟨q0, q1, q2, (Below.refl _ _).drew⟩)
                      (first
                       | (go_at_call 167
                          refine (U1.out _ ?_).mono ?_
                          · (go_split_ands; assumption)
                          rintro e wn ⟨rfl, hbn⟩)
                       | (go_at_call 22
                          refine (U2.out _ ?_).mono ?_
                          · (go_split_ands; assumption)
                          rintro e wn ⟨rfl, hbn⟩)
                       | (go_at_call 96
                          refine (U3.out _ ?_).mono ?_
                          · (go_split_ands; assumption)
                          rintro e wn ⟨rfl, hbn⟩)
                       | (go_at_call 145
                          refine (U4.out _ _ ?_).mono ?_
                          · (go_split_ands; assumption)
                          rintro e wn ⟨⟨r, rfl, hr⟩, hbn⟩
                          obtain rfl := R4.out r hr
                          clear hr))
                  | fail
                all_goals (go_wp2_with fail; go_meet; go_split_ands; exact ⟨by simp_all, B1.out.trans (Below.mono (by assumption) B1.out.size)⟩)
              case rest =>
                obtain ⟨rfl, hB⟩ := hcut
                have B := Lib.hid hB
                clear hB
                go_wp2
                go_roundw
                case rel => exact ⟨k + 1, by omega, by go_num, B.out, fun j hj => by by_cases e : j = k; (subst e; exact HG.out); exact HA.out j (by omega)⟩
                case measure => simp [intOf]; omega
            · have HF : Hid _ := LC.out _ t4 fun g => (g.2.2 k hlt).once
              have R4 : Hid (∀ r, FirstCm (cs.take k) (mg cs k) r → 0 ≤ r) := fun r h => by
                rcases h with ⟨_, h⟩ | ⟨j, h1, _⟩
                · exfalso
                  refine t4 fun j hj => ?_
                  have := h j (by rw [List.length_take]; omega)
                  rwa [mg_take hj] at this
                · omega
              clear t1 t2 t3 t4
              go_cut [44] (fun s44 wx => s44 = .bool true ∧ Below w.heap.size w wx)
              case first =>
                first
                  | go_region_held3 (fun w' => w'.cell? ⟨wr.heap.size, 0, none⟩ = some (.slice ua (mg cs k).1.length uc) ∧ w'.cell? ⟨wr.heap.size, 1, none⟩ = some (.slice sa (mg cs k).2.1.length sc) ∧ w'.cell? ⟨wr.heap.size, 2, none⟩ = some (.string (mg cs k).2.2) ∧ Below W1.heap.size W1 w')
                      (first
                        | (with_reducible assumption)
                        | (go_split_ands
                           rename_i hS0 hS1 hS2 hS3
                           with_reducible exact ⟨cell_later hbn hS0, cell_later hbn hS1, cell_later hbn hS2, hS3.trans (hbn.mono hS3.size)⟩)
                        | exact ⟨q0, q1, q2, (Below.refl _ _).drew⟩)
                      (first
                       | (go_at_call 167
                          refine (U1.out _ ?_).mono ?_
                          · (go_split_ands; assumption)
                          rintro e wn ⟨rfl, hbn⟩)
                       | (go_at_call 22
                          refine (U2.out _ ?_).mono ?_
                          · (go_split_ands; assumption)
                          rintro e wn ⟨rfl, hbn⟩)
                       | (go_at_call 96
                          refine (U3.out _ ?_).mono ?_
                          · (go_split_ands; assumption)
                          rintro e wn ⟨rfl, hbn⟩)
                       | (go_at_call 145
                          refine (U4.out _ _ ?_).mono ?_
                          · (go_split_ands; assumption)
                          rintro e wn ⟨⟨r, rfl, hr⟩, hbn⟩
                          have hr' := R4.out r hr
                          clear hr))
                  | fail
                all_goals (go_wp2_with fail; go_meet; go_split_ands; exact ⟨by simp, B1.out.trans (Below.mono (by assumption) B1.out.size)⟩)
              case rest =>
                obtain ⟨rfl, hB⟩ := hcut
                have B := Lib.hid hB
                clear hB
                go_wp2
                go_ret
                exact ⟨by rw [HF.out]; rfl, B.out⟩
          · have HF : Hid _ := LC.out _ t3 fun g => (g.2.2 k hlt).note
            rw [Bool.not_eq_true] at t3
            rw [t3] at U3
            clear t1 t2 t3 U4
            go_cut [44] (fun s44 wx => s44 = .bool true ∧ Below w.heap.size w wx)
            case first =>
              first
                | go_region_law (first
                    | (go_simp
                       go_at_call 167
                       refine (U1.out _ (Below.refl _ _).drew).mono ?_
                       rintro e wn1 ⟨rfl, hn1⟩
                       have hB1 : Below W1.heap.size W1 wn1 := (Below.refl W1.heap.size W1).drew.trans hn1
                       have p11 := cell_later hn1 (show W1.drew.cell? _ = _ from q1)
                       have p12 := cell_later hn1 (show W1.drew.cell? _ = _ from q2)
                       clear hn1)
                    | (go_simp
                       go_at_call 22
                       refine (U2.out _ hB1).mono ?_
                       rintro e wn2 ⟨rfl, hn2⟩
                       have hB2 : Below W1.heap.size W1 wn2 := hB1.trans (hn2.mono hB1.size)
                       have p21 := cell_later hn2 p11
                       have p22 := cell_later hn2 p12
                       clear hn2)
                    | (go_simp
                       go_at_call 96
                       refine (U3.out _ hB2).mono ?_
                       rintro e wn3 ⟨rfl, hn3⟩
                       have hB3 : Below W1.heap.size W1 wn3 := hB2.trans (hn3.mono hB2.size)
                       have p31 := cell_later hn3 p21
                       have p32 := cell_later hn3 p22
                       clear hn3))
                | fail
              all_goals (go_wp2_with fail; go_meet; exact ⟨by simp, B1.out.trans (hB3.mono B1.out.size)⟩)
            case rest =>
              obtain ⟨rfl, hB⟩ := hcut
              have B := Lib.hid hB
              clear hB
              go_wp2
              go_ret
              exact ⟨by rw [HF.out]; rfl, B.out⟩
        · have HF : Hid _ := LC.out _ t2 fun g => (g.2.2 k hlt).sheet
          rw [Bool.not_eq_true] at t2
          rw [t2] at U2
          clear t1 t2 U3 U4
          go_cut [44] (fun s44 wx => s44 = .bool true ∧ Below w.heap.size w wx)
          case first =>
            first
              | go_region_law (first
                  | (go_simp
                     go_at_call 167
                     refine (U1.out _ (Below.refl _ _).drew).mono ?_
                     rintro e wn1 ⟨rfl, hn1⟩
                     have hB1 : Below W1.heap.size W1 wn1 := (Below.refl W1.heap.size W1).drew.trans hn1
                     have p11 := cell_later hn1 (show W1.drew.cell? _ = _ from q1)
                     have p12 := cell_later hn1 (show W1.drew.cell? _ = _ from q2)
                     clear hn1)
                  | (go_simp
                     go_at_call 22
                     refine (U2.out _ hB1).mono ?_
                     rintro e wn2 ⟨rfl, hn2⟩
                     have hB2 : Below W1.heap.size W1 wn2 := hB1.trans (hn2.mono hB1.size)
                     have p21 := cell_later hn2 p11
                     have p22 := cell_later hn2 p12
                     clear hn2))
              | fail
            all_goals (go_wp2_with fail; go_meet; exact ⟨by simp, B1.out.trans (hB2.mono B1.out.size)⟩)
          case rest =>
            obtain ⟨rfl, hB⟩ := hcut
            have B := Lib.hid hB
            clear hB
            go_wp2
            go_ret
            exact ⟨by rw [HF.out]; rfl, B.out⟩
      · have HF : Hid _ := LC.out _ t1 fun g => (g.2.2 k hlt).up
        rw [upB_false t1] at U1
        clear t1 U2 U3 U4
        go_cut [44] (fun s44 wx => s44 = .bool true ∧ Below w.heap.size w wx)
        case first =>
          first
            | go_region_law (first
                | (go_simp
                   go_at_call 167
                   refine (U1.out _ (Below.refl _ _).drew).mono ?_
                   rintro e wn1 ⟨rfl, hn1⟩
                   have hB1 : Below W1.heap.size W1 wn1 := (Below.refl W1.heap.size W1).drew.trans hn1
                   have p11 := cell_later hn1 (show W1.drew.cell? _ = _ from q1)
                   have p12 := cell_later hn1 (show W1.drew.cell? _ = _ from q2)
                   clear hn1))
            | fail
          all_goals (go_wp2_with fail; go_meet; exact ⟨by simp, B1.out.trans (hB1.mono B1.out.size)⟩)
        case rest =>
          obtain ⟨rfl, hB⟩ := hcut
          have B := Lib.hid hB
          clear hB
          go_wp2
          go_ret
          exact ⟨by rw [HF.out]; rfl, B.out⟩
    · obtain rfl : k = cs.length := by omega
      have HF : Hid (cmsB cs = true) := by
        rw [Hid]
        simp [cmsB]
        exact ⟨by omega, by omega, HA.out⟩
      clear hbel
      go_wp2
      go_ret
      exact ⟨by rw [HF.out]; rfl, HB.out⟩

end Go.Proofs.YtdfadpejddhbkaaGreat
