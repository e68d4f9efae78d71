/- Proved here: the program holds two lists of things against each other thing by thing; lists of at most 1,048,576 things, points and tags. -/
import Derived.Test.YtdchfologicbeaaGreatWSheetEq
namespace Go.Proofs.YtdchfologicbeaaGreat
set_option linter.unusedVariables false
open Go.ChangeShapes Go.WideShapes Go.ChangeAt Go.RowKit

set_option maxRecDepth 100000 in
set_option maxHeartbeats 2000000 in
theorem equalFunc_any (a a' : Option Addr) (cap cap' : Nat) (fs gs : List Ft) (w : World) (hp : FeatsAt w a fs) (hq : FeatsAt w a' gs) (hl : fs.length ≤ 1048576) (hl' : gs.length ≤ 1048576) (hs : FeatsLen fs 1048576) (hs' : FeatsLen gs 1048576) :
    Calls Tryz.prog 176 #[.slice a fs.length cap, .slice a' gs.length cap', .func (Fn.func 134) #[] #[]] w fun e w' => e = .returned (.bool (fsEq fs gs)) ∧ Below w.heap.size w w' := by
  have HP := Lib.hid hp
  have HQ := Lib.hid hq
  have HS := Lib.hid hs
  have HS' := Lib.hid hs'
  clear hp hq hs hs'
  by_cases he : fs.length = gs.length
  · have HE := Lib.hid he
    rw [← he]
    have h1 : ((fs.length : Int) != (fs.length : Int)) = false := by simp
    clear he
    go_enter Tryz.func176, Tryz.ntmps176
    go_wp2
    go_loopw [7, 8, 9, 17] (fun _ _ _ i wr => ∃ k : Nat, k ≤ fs.length ∧ i = .int .i64 k ∧ Below w.heap.size w wr ∧ ∀ j, j < k → fg fs j = fg gs j) (fun _ _ _ i _ => fs.length - (intOf i).toNat)
    case atStart => exact ⟨0, Nat.zero_le _, rfl, Below.refl _ _, fun j h => absurd h (Nat.not_lt_zero _)⟩
    case round =>
      obtain ⟨k, hk, rfl, hbel, hall⟩ := hrel
      have HA := Lib.hid hall
      have HB := Lib.hid hbel
      have hsz := hbel.size
      clear hall
      by_cases hlt : k < fs.length
      · obtain ⟨b, off, pa, pc, ta, tc, rfl, hb, hc1, hc2, hc3, hc4, hpp, htt⟩ := HP.out k hlt
        obtain ⟨b', off', pa', pc', ta', tc', rfl, hb', hd1, hd2, hd3, hd4, hpp', htt'⟩ := HQ.out k (by have := HE.out; omega)
        obtain ⟨l1, l2, l3, _⟩ := HS.out k hlt
        obtain ⟨m1, m2, m3, _⟩ := HS'.out k (by have := HE.out; omega)
        rw [← hbel.cell (p := ⟨b, _, none⟩) hb] at hc1 hc2 hc3 hc4
        rw [← hbel.cell (p := ⟨b', _, none⟩) hb'] at hd1 hd2 hd3 hd4
        have zb : b < wr.heap.size := by omega
        have zb' : b' < wr.heap.size := by omega
        have D1 := Lib.hid (hpp.below hbel)
        have D2 := Lib.hid (htt.below hbel)
        have D3 := Lib.hid (hpp'.below hbel)
        have D4 := Lib.hid (htt'.below hbel)
        clear hbel hpp htt hpp' htt'
        have hfe := featEq_fg fs gs k k
        have A0 : Hid (∀ o o', Below wr.heap.size wr ((wr.alloc o).alloc o')) := fun o o' => ((Below.refl _ _).alloc (Nat.le_refl _) _).alloc (by simp) _
        go_wp2_with fail
        clear hc1 hc2 hc3 hc4 hd1 hd2 hd3 hd4
        refine (implFeatSame_any _ _ _ _ _ _ _ _ _ _ _ _ _ _ _ _ _ (D1.out.below (A0.out _ _)) (D3.out.below (A0.out _ _)) (D2.out.below (A0.out _ _)) (D4.out.below (A0.out _ _)) (by omega) (by omega) (by omega) (by omega)).mono ?_
        rintro e w1 ⟨rfl, hb2⟩
        have B2 : Hid (Below w.heap.size w w1) := HB.out.trans (((A0.out _ _).trans (hb2.mono (by simp; omega))).mono hsz)
        clear hb2 A0
        by_cases hs : fg fs k = fg gs k
        · rw [hfe, decide_eq_true hs]
          have HG := Lib.hid hs
          clear hs hfe
          go_wp2
          go_roundw
          case rel => exact ⟨k + 1, by omega, by go_num, B2.out, fun j hj => by by_cases e : j = k; (subst e; exact HG.out); exact HA.out j (by omega)⟩
          case measure => simp [intOf]; omega
        · rw [hfe, decide_eq_false hs]
          have HG := Lib.hid (fsEq_ne hs)
          clear hs hfe
          go_wp2
          go_ret
          exact ⟨by rw [HG.out]; rfl, B2.out⟩
      · obtain rfl : k = fs.length := by omega
        have HT := Lib.hid (fsEq_of HE.out HA.out)
        clear hbel
        go_wp2
        go_ret
        exact ⟨by rw [HT.out]; rfl, HB.out⟩
  · have h1 : ((fs.length : Int) != (gs.length : Int)) = true := by simp; omega
    have HT := Lib.hid (fsEq_len he)
    clear he
    go_enter Tryz.func176, Tryz.ntmps176
    go_wp2
    go_ret
    exact ⟨by rw [HT.out]; rfl, Below.refl _ _⟩

set_option maxRecDepth 100000 in
set_option maxHeartbeats 2000000 in
theorem implSheetSame_any (a a' : Option Addr) (cap cap' : Nat) (fs gs : List Ft) (w : World) (hp : FeatsAt w a fs) (hq : FeatsAt w a' gs) (hl : fs.length ≤ 1048576) (hl' : gs.length ≤ 1048576) (hs : FeatsLen fs 1048576) (hs' : FeatsLen gs 1048576) :
    Calls Tryz.prog 113 #[.slice a fs.length cap, .slice a' gs.length cap'] w fun e w' => e = .returned (.bool (fsEq fs gs)) ∧ Below w.heap.size w w' := by
  have HP := Lib.hid hp
  have HQ := Lib.hid hq
  have HS := Lib.hid hs
  have HS' := Lib.hid hs'
  clear hp hq hs hs'
  go_enter Tryz.func113, Tryz.ntmps113
  go_wp2_with fail
  refine (equalFunc_any _ _ _ _ _ _ _ HP.out HQ.out hl hl' HS.out HS'.out).mono ?_
  rintro e w1 ⟨rfl, hb1⟩
  have B1 := Lib.hid hb1
  clear hb1
  go_wp2
  go_ret
  exact ⟨rfl, B1.out⟩

end Go.Proofs.YtdchfologicbeaaGreat
