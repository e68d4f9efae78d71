/- Proved here: the model's look for a name among things answers the place of the first, or -1; lists of at most 1,048,576 things. -/
import Derived.Test.YtjphlpjippojiaaGreatWSheetOk
namespace Go.Proofs.YtjphlpjippojiaaGreat
set_option linter.unusedVariables false
open Go.ChangeShapes Go.WideShapes Go.ChangeAt Go.RowKit

/-- the place of the first thing of a name; where there is none, how many there are -/
def firstF (fs : List Ft) (id : ByteArray) : Nat := fs.findIdx (fun f => decide (f.1 = id))

theorem fid_get {fs : List Ft} {i : Nat} (h : i < fs.length) : fs[i].1 = fid fs i := by unfold fid; rw [fg_get h]

theorem firstF_hit {fs : List Ft} {id : ByteArray} {k : Nat} (hk : k < fs.length) (h : fid fs k = id) (hall : ∀ j, j < k → fid fs j ≠ id) : firstF fs id = k := by
  unfold firstF
  rw [List.findIdx_eq hk]
  refine ⟨by simp [fid_get hk, h], fun j hj => ?_⟩
  have := hall j hj
  rw [← fid_get (by omega)] at this
  simpa using this

theorem firstF_miss {fs : List Ft} {id : ByteArray} (hall : ∀ j, j < fs.length → fid fs j ≠ id) : firstF fs id = fs.length := by
  unfold firstF
  rw [List.findIdx_eq_length]
  intro x hx
  obtain ⟨i, hi, rfl⟩ := List.getElem_of_mem hx
  have := hall i hi
  rw [← fid_get hi] at this
  simpa using this

theorem firstF_at {fs : List Ft} {id : ByteArray} (h : firstF fs id < fs.length) : fid fs (firstF fs id) = id := by
  have := List.findIdx_getElem (p := fun f : Ft => decide (f.1 = id)) (xs := fs) (w := h)
  rw [← fid_get h]
  exact of_decide_eq_true this

/-- what the look answers -/
def findV (fs : List Ft) (id : ByteArray) : Int := if firstF fs id < fs.length then (firstF fs id : Int) else -1

set_option maxHeartbeats 2000000 in
theorem l3Find_any (a : Option Addr) (cap : Nat) (fs : List Ft) (id : ByteArray) (w : World) (hp : FeatsAt w a fs) (hl : fs.length ≤ 1048576) :
    Calls Tryz.prog 22 #[.slice a fs.length cap, .string id] w fun e w' => e = .returned (.int .i64 (findV fs id)) ∧ w = w' := by
  have HP := Lib.hid hp
  clear hp
  go_enter Tryz.func22, Tryz.ntmps22
  go_wp2
  go_loopw [5] (fun i wr => ∃ k : Nat, k ≤ fs.length ∧ i = .int .i64 k ∧ w = wr ∧ ∀ j, j < k → fid fs j ≠ id) (fun i _ => fs.length - (intOf i).toNat)
  case atStart => exact ⟨0, Nat.zero_le _, rfl, rfl, fun j h => absurd h (Nat.not_lt_zero _)⟩
  case round =>
    obtain ⟨k, hk, rfl, rfl, hall⟩ := hrel
    have HA := Lib.hid hall
    clear hall
    by_cases hlt : k < fs.length
    · obtain ⟨b, off, pa, pc, ta, tc, rfl, hb, hc1, _⟩ := HP.out k hlt
      have hbq := bytes_beq (fid fs k) id
      by_cases hs : fid fs k = id
      · rw [decide_eq_true hs] at hbq
        have HS : Hid (findV fs id = (k : Int)) := by
          have := firstF_hit hlt hs HA.out
          show _ = _
          unfold findV
          rw [this, if_pos hlt]
        clear hs
        go_wp2
        go_ret
        exact ⟨congrArg (fun x => Ending.returned (Value.int .i64 x)) HS.out.symm, rfl⟩
      · rw [decide_eq_false hs] at hbq
        have HS := Lib.hid hs
        clear hs
        go_wp2
        go_roundw
        case rel => exact ⟨k + 1, by omega, by go_num, by trivial, fun j hj => by by_cases e : j = k; (subst e; exact HS.out); exact HA.out j (by omega)⟩
        case measure => simp [intOf]; omega
    · obtain rfl : k = fs.length := by omega
      have HS : Hid (findV fs id = -1) := by
        have := firstF_miss HA.out
        show _ = _
        unfold findV
        rw [this, if_neg (by omega)]
      go_wp2
      go_ret
      exact ⟨congrArg (fun x => Ending.returned (Value.int .i64 x)) HS.out.symm, rfl⟩
end Go.Proofs.YtjphlpjippojiaaGreat
