/- Proved here: the two functions that ask whether a text is a word answer as the plain definition 'wordOk' says; texts of at most 1,048,576 bytes. -/
import Derived.Test.YtdfadpejddhbkaaWBase
import Derived.Lib.ConvBytes
namespace Go.Proofs.Ytdfadpejddhbkaa
set_option linter.unusedVariables false
open Go.ChangeShapes Go.WideShapes Go.ChangeAt Go.RowKit

/-- the byte at a place -/
def byteAt (s : ByteArray) (i : Nat) : Int := ((s.data.toList.getD i 0).toNat : Int)
/-- a letter -/
def lowB (s : ByteArray) (i : Nat) : Bool := decide (97 ≤ byteAt s i) && decide (byteAt s i ≤ 122)
def lows (s : ByteArray) : Bool := (List.range s.size).all (lowB s)
/-- a word -/
def wordOk (s : ByteArray) : Bool := decide (1 ≤ s.size) && decide (s.size ≤ 6) && lows s

theorem lows_of {s : ByteArray} (h : ∀ j, j < s.size → lowB s j = true) : lows s = true := by
  unfold lows
  rw [List.all_eq_true]
  intro j hj
  exact h j (by simpa using hj)

theorem lows_not {s : ByteArray} {j : Nat} (hj : j < s.size) (h : lowB s j = false) : lows s = false := by
  unfold lows
  rw [List.all_eq_false]
  exact ⟨j, by simpa using hj, by simp [h]⟩

theorem byteAt_ge (s : ByteArray) (i : Nat) : 0 ≤ byteAt s i := by unfold byteAt; omega
theorem byteAt_lt (s : ByteArray) (i : Nat) : byteAt s i < 256 := by
  unfold byteAt
  have := (s.data.toList.getD i 0).toNat_lt
  omega

theorem run_byteAt (s : ByteArray) (k : Nat) (w : World) (h : k < s.size) : (Instr.index 9 (.string s) (.int .i64 (k : Int))).run Try.prog w = .ok (.int .u8 (byteAt s k)) w := by
  rw [run_index_string w 9 s .i64 k Try.underlying9, dif_pos ⟨by omega, by omega⟩]
  have h1 : (s[k]'h) = s.data.toList.getD k 0 := by
    have : k < s.data.toList.length := by simpa using h
    rw [List.getD_eq_getElem?_getD, List.getElem?_eq_getElem this]
    simp
    rfl
  simp only [Int.toNat_natCast, byteAt]
  rw [← h1]

set_option maxHeartbeats 1000000 in
theorem specWordOk_any (s : ByteArray) (w : World) (hs : s.size ≤ 1048576) :
    Calls Try.prog 66 #[.string s] w fun e w' => e = .returned (.bool (wordOk s)) ∧ w' = w := by
  go_enter Try.func66, Try.ntmps66
  go_wp2
  go_loop [3] (fun i => ∃ k : Nat, k ≤ s.size ∧ i = .int .i64 k ∧ ∀ j, j < k → lowB s j = true) (fun i => s.size - (intOf i).toNat)
  case atStart => exact ⟨0, Nat.zero_le _, rfl, fun j h => absurd h (Nat.not_lt_zero _)⟩
  case round =>
    obtain ⟨k, hk, rfl, hall⟩ := hrel
    have HA := Lib.hid hall
    clear hall
    by_cases hlt : k < s.size
    · have hr := fun u => run_byteAt s k u hlt
      by_cases h1 : byteAt s k < 97
      · have HS : Hid (lowB s k = false) := by simp [Hid, lowB]; omega
        go_wp2
        go_ret
        exact ⟨by rw [wordOk, lows_not hlt HS.out]; simp, rfl⟩
      · by_cases h2 : byteAt s k ≤ 122
        · have HS : Hid (lowB s k = true) := by simp [Hid, lowB]; omega
          go_wp2
          go_round
          case rel => exact ⟨k + 1, by omega, by go_num, fun j hj => by by_cases e : j = k; (subst e; exact HS.out); exact HA.out j (by omega)⟩
          case measure => simp [intOf]; omega
        · have HS : Hid (lowB s k = false) := by simp [Hid, lowB]; omega
          go_wp2
          go_ret
          exact ⟨by rw [wordOk, lows_not hlt HS.out]; simp, rfl⟩
    · obtain rfl : k = s.size := by omega
      have HT := Lib.hid (lows_of HA.out)
      by_cases g1 : 1 ≤ s.size
      · have HW : Hid (wordOk s = decide ((s.size : Int) ≤ 6)) := by
          show _ = _
          rw [wordOk, HT.out, Bool.eq_iff_iff]
          simp
          omega
        go_wp2
        go_ret
        exact ⟨by rw [HW.out]; rfl, rfl⟩
      · have HW : Hid (wordOk s = false) := by simp [Hid, wordOk, g1]
        go_wp2
        go_ret
        exact ⟨by rw [HW.out]; rfl, rfl⟩

theorem bytes_below {B : Nat} {w wr : World} (h : Below B w wr) (hB : B ≤ wr.heap.size) (e : TypeId) (s : ByteArray) : Below B w (Lib.bytesWorld wr e s) := by
  refine ⟨h.os, h.tape, h.output, ?_, fun j hj => ?_⟩
  · rw [Lib.bytesWorld_size]; have := h.size; omega
  · rw [Lib.bytesWorld_at_old _ _ _ _ (by omega)]; exact h.block j hj

set_option maxHeartbeats 1000000 in
theorem implWordOk_any (s : ByteArray) (w : World) (hs : s.size ≤ 1048576) :
    Calls Try.prog 53 #[.string s] w fun e w' => e = .returned (.bool (wordOk s)) ∧ Below w.heap.size w w' := by
  by_cases g1 : 1 ≤ s.size
  · by_cases g2 : s.size ≤ 6
    · have hcv := fun u => Lib.run_convert_string_bytes (P := Try.prog) u 9 22 5 s Try.underlying9 Try.underlying22 Try.underlying5
      have HC := Lib.hid (Lib.bytesWorld_cell w 5 s)
      have HB : Hid (Below w.heap.size w (Lib.bytesWorld w 5 s)) := bytes_below (Below.refl _ _) (Nat.le_refl _) _ _
      go_enter Try.func53, Try.ntmps53
      go_wp2
      clear hcv
      go_loopw [4, 16] (fun _ i wr => ∃ k : Nat, k ≤ s.size ∧ i = .int .i64 k ∧ wr = Lib.bytesWorld w 5 s ∧ ∀ j, j < k → lowB s j = true) (fun _ i _ => s.size - (intOf i).toNat)
      case atStart => exact ⟨0, Nat.zero_le _, rfl, rfl, fun j h => absurd h (Nat.not_lt_zero _)⟩
      case round =>
        obtain ⟨k, hk, rfl, rfl, hall⟩ := hrel
        have HA := Lib.hid hall
        clear hall
        by_cases hlt : k < s.size
        · have hc : (Lib.bytesWorld w 5 s).cell? ⟨w.heap.size, k, none⟩ = some (.int .u8 (byteAt s k)) := HC.out k hlt
          by_cases h1 : byteAt s k < 97
          · have HS : Hid (lowB s k = false) := by simp [Hid, lowB]; omega
            go_wp2
            go_ret
            exact ⟨by rw [wordOk, lows_not hlt HS.out]; simp, HB.out⟩
          · by_cases h2 : byteAt s k ≤ 122
            · have HS : Hid (lowB s k = true) := by simp [Hid, lowB]; omega
              go_wp2
              go_roundw
              case rel => exact ⟨k + 1, by omega, by go_num, trivial, fun j hj => by by_cases e : j = k; (subst e; exact HS.out); exact HA.out j (by omega)⟩
              case measure => simp [intOf]; omega
            · have HS : Hid (lowB s k = false) := by simp [Hid, lowB]; omega
              go_wp2
              go_ret
              exact ⟨by rw [wordOk, lows_not hlt HS.out]; simp, HB.out⟩
        · obtain rfl : k = s.size := by omega
          have HT := Lib.hid (lows_of HA.out)
          go_wp2
          go_ret
          exact ⟨by rw [wordOk, HT.out]; simp [g1, g2], HB.out⟩
    · go_enter Try.func53, Try.ntmps53
      go_wp2
      go_ret
      exact ⟨by simp [wordOk, g1, g2], Below.refl _ _⟩
  · go_enter Try.func53, Try.ntmps53
    go_wp2
    go_ret
    exact ⟨by simp [wordOk, g1], Below.refl _ _⟩
end Go.Proofs.Ytdfadpejddhbkaa
