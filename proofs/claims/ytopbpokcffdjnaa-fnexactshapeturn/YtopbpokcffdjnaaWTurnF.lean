/- Proved here: slices.CompareFunc over two rows of one length, with the code's comparison of points, answers as the plain definition 'rowCmp' says; rows of at most 1,048,576 points. -/
import Derived.Test.YtopbpokcffdjnaaWTurnC
namespace Go.Proofs.Ytopbpokcffdjnaa
set_option linter.unusedVariables false
open Go.ChangeShapes Go.WideShapes Go.ChangeAt Go.RowKit

set_option maxHeartbeats 1000000 in
theorem compareFunc_any (a a' : Option Addr) (cap cap' : Nat) (ps qs : List (Int × Int)) (w : World) (hp : PtsAt w a ps) (hq : PtsAt w a' qs) (he : ps.length = qs.length) (hl : ps.length ≤ 1048576) :
    Calls Try.prog 95 #[.slice a ps.length cap, .slice a' qs.length cap', .func (.func 96) #[] #[]] w fun e w' => e = .returned (.int .i64 (rowCmp ps qs)) ∧ Below w.heap.size w w' := by
  have HP := Lib.hid hp
  have HQ := Lib.hid hq
  have HE := Lib.hid he
  rw [← he]
  clear hp hq he
  go_enter Try.func95, Try.ntmps95
  go_wp2
  go_loopw [7, 8, 9, 10, 13] (fun _ _ _ _ i wr => ∃ k : Nat, k ≤ ps.length ∧ i = .int .i64 k ∧ Below w.heap.size w wr ∧ ∀ j, j < k → px ps j = px qs j ∧ py ps j = py qs j) (fun _ _ _ _ i _ => ps.length - (intOf i).toNat)
  case atStart => exact ⟨0, Nat.zero_le _, rfl, Below.refl _ _, fun j h => absurd h (Nat.not_lt_zero _)⟩
  case round =>
    obtain ⟨k, hk, rfl, hbel, hall⟩ := hrel
    have HA := Lib.hid hall
    have HB := Lib.hid hbel
    have hsz := hbel.size
    clear hall
    by_cases hlt : k < ps.length
    · obtain ⟨b, off, rfl, hb, hc1, hc2⟩ := HP.out k hlt
      obtain ⟨b', off', rfl, hb', hd1, hd2⟩ := HQ.out k (by have := HE.out; omega)
      rw [← hbel.cell (p := ⟨b, _, none⟩) hb] at hc1 hc2
      rw [← hbel.cell (p := ⟨b', _, none⟩) hb'] at hd1 hd2
      have hlt2 : b < wr.heap.size := by omega
      have hlt3 : b' < wr.heap.size := by omega
      clear hbel
      by_cases hs : px ps k = px qs k ∧ py ps k = py qs k
      · have h0 : ptCmp (px ps k, py ps k) (px qs k, py qs k) = 0 := ptCmp_zero.mpr (Prod.ext hs.1 hs.2)
        have HS := Lib.hid hs
        clear hs
        go_wp2_with (go_at_call 96; refine (comparePts_any _ _ _ _ _).mono ?_; rintro e w1 ⟨rfl, hb1⟩; rw [h0]; have HB1 := Lib.hid hb1; clear hb1)
        go_roundw
        case rel =>
          refine ⟨k + 1, by omega, by go_num, ?_, fun j hj => by by_cases e : j = k; (subst e; exact HS.out); exact HA.out j (by omega)⟩
          exact ((HB.out.alloc hsz _).alloc (by simp; omega) _).trans (HB1.out.mono (by simp; omega))
        case measure => simp [intOf]; omega
      · have h0 : (ptCmp (px ps k, py ps k) (px qs k, py qs k) != 0) = true := by simpa using fun e => hs (by simpa using ptCmp_zero.mp e)
        have HS := Lib.hid (row_at k ps qs hlt (by have := HE.out; omega) HA.out hs).2
        clear hs
        go_wp2_with (go_at_call 96; refine (comparePts_any _ _ _ _ _).mono ?_; rintro e w1 ⟨rfl, hb1⟩; have HB1 := Lib.hid hb1; clear hb1)
        go_ret
        exact ⟨by rw [HS.out]; rfl, ((HB.out.alloc hsz _).alloc (by simp; omega) _).trans (HB1.out.mono (by simp; omega))⟩
    · obtain rfl : k = ps.length := by omega
      have HT := Lib.hid (row_end HE.out HA.out).2
      clear hbel
      go_wp2
      go_ret
      exact ⟨by rw [HT.out]; rfl, HB.out⟩
end Go.Proofs.Ytopbpokcffdjnaa
