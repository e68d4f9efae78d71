/- Proved here: the three functions that hold two lists of things against each other answer whether they are the same lists; lists of at most 1,048,576 things, points and tags. -/
import Derived.Test.YtdfadpejddhbkaaGreatWSheet
import Derived.Test.YtdfadpejddhbkaaGreatWFeatEq
import Derived.StillTailTactics
namespace Go.Proofs.YtdfadpejddhbkaaGreat
set_option linter.unusedVariables false
open Go.ChangeShapes Go.WideShapes Go.ChangeAt Go.RowKit

/-- two lists of things are one -/
def fsEq (fs gs : List Ft) : Bool := decide (fs = gs)

theorem featEq_fg (fs gs : List Ft) (i j : Nat) : featEq (fid fs i) (fid gs j) (fkd fs i) (fkd gs j) (fps fs i) (fps gs j) (fts fs i) (fts gs j) = decide (fg fs i = fg gs j) := by
  rw [fg_eq, fg_eq]
  unfold featEq shEq ptsEq tgsEq
  by_cases h1 : fid fs i = fid gs j <;> by_cases h2 : fkd fs i = fkd gs j <;> by_cases h3 : fps fs i = fps gs j <;> by_cases h4 : fts fs i = fts gs j <;> simp [h1, h2, h3, h4]

theorem fsEq_of {fs gs : List Ft} (hl : fs.length = gs.length) (h : ∀ j, j < fs.length → fg fs j = fg gs j) : fsEq fs gs = true := by
  unfold fsEq
  rw [decide_eq_true_iff]
  refine List.ext_getElem hl fun i h1 h2 => ?_
  have := h i h1
  rwa [fg_get h1, fg_get h2] at this

theorem fsEq_ne {fs gs : List Ft} {j : Nat} (h : ¬ fg fs j = fg gs j) : fsEq fs gs = false := by
  unfold fsEq
  rw [decide_eq_false_iff_not]
  rintro rfl
  exact h rfl

theorem fsEq_len {fs gs : List Ft} (h : fs.length ≠ gs.length) : fsEq fs gs = false := by
  unfold fsEq
  rw [decide_eq_false_iff_not]
  rintro rfl
  exact h rfl

set_option maxRecDepth 100000 in
set_option maxHeartbeats 2000000 in
theorem eqFeatS_any (a a' : Option Addr) (cap cap' : Nat) (fs gs : List Ft) (w : World) (hp : FeatsAt w a fs) (hq : FeatsAt w a' gs) (hl : fs.length ≤ 1048576) (hl' : gs.length ≤ 1048576) (hs : FeatsLen fs 1048576) (hs' : FeatsLen gs 1048576) :
    Calls Tryz.prog 45 #[.slice a fs.length cap, .slice a' gs.length cap'] w fun e w' => e = .returned (.bool (fsEq fs gs)) ∧ Below w.heap.size w w' := by
  have HP := Lib.hid hp
  have HQ := Lib.hid hq
  have HS := Lib.hid hs
  have HS' := Lib.hid hs'
  clear hp hq hs hs'
  by_cases he : fs.length = gs.length
  · have HE := Lib.hid he
    rw [← he]
    have h1 : ((fs.length : Int) != (fs.length : Int)) = false := by simp
    clear he
    go_enter Tryz.func45, Tryz.ntmps45
    go_wp2
    go_loopw [5] (fun i wr => ∃ k : Nat, k ≤ fs.length ∧ i = .int .i64 k ∧ Below w.heap.size w wr ∧ ∀ j, j < k → fg fs j = fg gs j) (fun i _ => fs.length - (intOf i).toNat)
    case atStart => exact ⟨0, Nat.zero_le _, rfl, Below.refl _ _, fun j h => absurd h (Nat.not_lt_zero _)⟩
    case round =>
      obtain ⟨k, hk, rfl, hbel, hall⟩ := hrel
      have HA := Lib.hid hall
      have HB := Lib.hid hbel
      have hsz := hbel.size
      clear hall
      by_cases hlt : k < fs.length
      · obtain ⟨b, off, pa, pc, ta, tc, rfl, hb, hc1, hc2, hc3, hc4, hpp, htt⟩ := HP.out k hlt
        obtain ⟨b', off', pa', pc', ta', tc', rfl, hb', hd1, hd2, hd3, hd4, hpp', htt'⟩ := HQ.out k (by have := HE.out; omega)
        obtain ⟨l1, l2, l3, _⟩ := HS.out k hlt
        obtain ⟨m1, m2, m3, _⟩ := HS'.out k (by have := HE.out; omega)
        rw [← hbel.cell (p := ⟨b, _, none⟩) hb] at hc1 hc2 hc3 hc4
        rw [← hbel.cell (p := ⟨b', _, none⟩) hb'] at hd1 hd2 hd3 hd4
        have D1 := Lib.hid (hpp.below hbel.drew)
        have D2 := Lib.hid (htt.below hbel.drew)
        have D3 := Lib.hid (hpp'.below hbel.drew)
        have D4 := Lib.hid (htt'.below hbel.drew)
        clear hbel hpp htt hpp' htt'
        have hfe := featEq_fg fs gs k k
        by_cases hs : fg fs k = fg gs k
        · rw [decide_eq_true hs] at hfe
          have HG := Lib.hid hs
          clear hs
          go_wp2
          go_still_tail 8, (by kernel_rfl)
          go_wp2_with fail
          refine (eqFeat_any _ _ _ _ _ _ _ _ _ _ _ _ _ _ _ _ _ D1.out D3.out D2.out D4.out (by omega) (by omega) (by omega) (by omega)).mono ?_
          rintro e w1 ⟨rfl, hb2⟩
          have HB2 := Lib.hid hb2
          clear hb2
          go_wp2
          go_roundw
          case rel => exact ⟨k + 1, by omega, by go_num, HB.out.drew.trans (HB2.out.mono hsz), fun j hj => by by_cases e : j = k; (subst e; exact HG.out); exact HA.out j (by omega)⟩
          case measure => simp [intOf]; omega
        · rw [decide_eq_false hs] at hfe
          have HG := Lib.hid (fsEq_ne hs)
          clear hs
          go_wp2
          go_still_tail 8, (by kernel_rfl)
          go_wp2_with fail
          refine (eqFeat_any _ _ _ _ _ _ _ _ _ _ _ _ _ _ _ _ _ D1.out D3.out D2.out D4.out (by omega) (by omega) (by omega) (by omega)).mono ?_
          rintro e w1 ⟨rfl, hb2⟩
          have HB2 := Lib.hid hb2
          clear hb2
          go_wp2
          go_ret
          exact ⟨by rw [HG.out]; rfl, HB.out.drew.trans (HB2.out.mono hsz)⟩
      · obtain rfl : k = fs.length := by omega
        have HT := Lib.hid (fsEq_of HE.out HA.out)
        clear hbel
        go_wp2
        go_ret
        exact ⟨by rw [HT.out]; rfl, HB.out⟩
  · have h1 : ((fs.length : Int) != (gs.length : Int)) = true := by simp; omega
    have HT := Lib.hid (fsEq_len he)
    clear he
    go_enter Tryz.func45, Tryz.ntmps45
    go_wp2
    go_ret
    exact ⟨by rw [HT.out]; rfl, Below.refl _ _⟩


set_option maxRecDepth 100000 in
set_option maxHeartbeats 2000000 in
theorem specSheetSame_any (a a' : Option Addr) (cap cap' : Nat) (fs gs : List Ft) (w : World) (hp : FeatsAt w a fs) (hq : FeatsAt w a' gs) (hl : fs.length ≤ 1048576) (hl' : gs.length ≤ 1048576) (hs : FeatsLen fs 1048576) (hs' : FeatsLen gs 1048576) :
    Calls Tryz.prog 91 #[.slice a fs.length cap, .slice a' gs.length cap'] w fun e w' => e = .returned (.bool (fsEq fs gs)) ∧ Below w.heap.size w w' := by
  have HP := Lib.hid hp
  have HQ := Lib.hid hq
  have HS := Lib.hid hs
  have HS' := Lib.hid hs'
  clear hp hq hs hs'
  by_cases he : fs.length = gs.length
  · have HE := Lib.hid he
    rw [← he]
    have h1 : ((fs.length : Int) != (fs.length : Int)) = false := by simp
    clear he
    go_enter Tryz.func91, Tryz.ntmps91
    go_wp2
    go_loopw [5] (fun i wr => ∃ k : Nat, k ≤ fs.length ∧ i = .int .i64 k ∧ Below w.heap.size w wr ∧ ∀ j, j < k → fg fs j = fg gs j) (fun i _ => fs.length - (intOf i).toNat)
    case atStart => exact ⟨0, Nat.zero_le _, rfl, Below.refl _ _, fun j h => absurd h (Nat.not_lt_zero _)⟩
    case round =>
      obtain ⟨k, hk, rfl, hbel, hall⟩ := hrel
      have HA := Lib.hid hall
      have HB := Lib.hid hbel
      have hsz := hbel.size
      clear hall
      by_cases hlt : k < fs.length
      · obtain ⟨b, off, pa, pc, ta, tc, rfl, hb, hc1, hc2, hc3, hc4, hpp, htt⟩ := HP.out k hlt
        obtain ⟨b', off', pa', pc', ta', tc', rfl, hb', hd1, hd2, hd3, hd4, hpp', htt'⟩ := HQ.out k (by have := HE.out; omega)
        obtain ⟨l1, l2, l3, _⟩ := HS.out k hlt
        obtain ⟨m1, m2, m3, _⟩ := HS'.out k (by have := HE.out; omega)
        rw [← hbel.cell (p := ⟨b, _, none⟩) hb] at hc1 hc2 hc3 hc4
        rw [← hbel.cell (p := ⟨b', _, none⟩) hb'] at hd1 hd2 hd3 hd4
        have D1 := Lib.hid (hpp.below hbel.drew)
        have D2 := Lib.hid (htt.below hbel.drew)
        have D3 := Lib.hid (hpp'.below hbel.drew)
        have D4 := Lib.hid (htt'.below hbel.drew)
        clear hbel hpp htt hpp' htt'
        have hfe := featEq_fg fs gs k k
        by_cases hs : fg fs k = fg gs k
        · rw [decide_eq_true hs] at hfe
          have HG := Lib.hid hs
          clear hs
          go_wp2
          go_still_tail 8, (by kernel_rfl)
          go_wp2_with fail
          refine (specFeatSame_any _ _ _ _ _ _ _ _ _ _ _ _ _ _ _ _ _ D1.out D3.out D2.out D4.out (by omega) (by omega) (by omega) (by omega)).mono ?_
          rintro e w1 ⟨rfl, hb2⟩
          have HB2 := Lib.hid hb2
          clear hb2
          go_wp2
          go_roundw
          case rel => exact ⟨k + 1, by omega, by go_num, HB.out.drew.trans (HB2.out.mono hsz), fun j hj => by by_cases e : j = k; (subst e; exact HG.out); exact HA.out j (by omega)⟩
          case measure => simp [intOf]; omega
        · rw [decide_eq_false hs] at hfe
          have HG := Lib.hid (fsEq_ne hs)
          clear hs
          go_wp2
          go_still_tail 8, (by kernel_rfl)
          go_wp2_with fail
          refine (specFeatSame_any _ _ _ _ _ _ _ _ _ _ _ _ _ _ _ _ _ D1.out D3.out D2.out D4.out (by omega) (by omega) (by omega) (by omega)).mono ?_
          rintro e w1 ⟨rfl, hb2⟩
          have HB2 := Lib.hid hb2
          clear hb2
          go_wp2
          go_ret
          exact ⟨by rw [HG.out]; rfl, HB.out.drew.trans (HB2.out.mono hsz)⟩
      · obtain rfl : k = fs.length := by omega
        have HT := Lib.hid (fsEq_of HE.out HA.out)
        clear hbel
        go_wp2
        go_ret
        exact ⟨by rw [HT.out]; rfl, HB.out⟩
  · have h1 : ((fs.length : Int) != (gs.length : Int)) = true := by simp; omega
    have HT := Lib.hid (fsEq_len he)
    clear he
    go_enter Tryz.func91, Tryz.ntmps91
    go_wp2
    go_ret
    exact ⟨by rw [HT.out]; rfl, Below.refl _ _⟩

end Go.Proofs.YtdfadpejddhbkaaGreat
