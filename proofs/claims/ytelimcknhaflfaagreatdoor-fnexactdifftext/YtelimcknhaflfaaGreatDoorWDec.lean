/- Proved here: the model writes a number in decimals as the plain function 'dec' says; numbers from -1,000 to 1,000. -/
import Derived.Test.YtelimcknhaflfaaGreatDoorWBase
import Derived.Laws.BytesArg
import Derived.Laws.Concat
import Derived.Lib.ItoaNum
import Derived.Lib.ItoaLen
namespace Go.Proofs.YtelimcknhaflfaaGreatDoor
set_option linter.unusedVariables false
open Go.ChangeShapes Go.WideShapes Go.ChangeAt Go.RowKit

/-- a number in decimals -/
def dec (n : Int) : ByteArray := ⟨(Lib.itoa n).toArray⟩

theorem dec_size (n : Int) (h0 : -1000 ≤ n) (h1 : n ≤ 1000) : (dec n).size ≤ 21 := by
  have := Lib.itoa_length_le n (by omega) (by omega)
  simpa [dec, ByteArray.size] using this

theorem run_dig (u : World) (x : Int) : (convert 78 9 (.slice (some ⟨u.heap.size, 0, none⟩) 1 1)).run Tryz.prog (u.alloc (.cells #[.int .u8 x] 5)) = .ok (.string (strOfNums [x])) (u.alloc (.cells #[.int .u8 x] 5)) :=
  run_convert_bytes_arg (P := Tryz.prog) _ 78 5 Tryz.underlying78 Tryz.underlying5 u.heap.size 0 1 1 [x] rfl (fun i hi => by obtain rfl : i = 0 := (by omega); simp [go_sem]) 9 Tryz.underlying9

theorem digits_big {j : Nat} (h : 9 < j) : Lib.decDigits j = Lib.decDigits (j / 10) ++ [UInt8.ofNat (48 + j % 10)] := by
  conv => lhs; unfold Lib.decDigits
  rw [dif_neg (by omega)]

theorem str_cons (x : Int) (o : ByteArray) : (strOfNums [x] ++ o).data.toList = UInt8.ofNat x.toNat :: o.data.toList := by simp [strOfNums]

theorem bytes_ext {a b : ByteArray} (h : a.data.toList = b.data.toList) : a = b := by
  cases a; cases b; simp at h; simp [h]

set_option maxHeartbeats 1000000 in
theorem l12Dec_nat (n : Nat) (w : World) (hn : n ≤ 1000) :
    Calls Tryz.prog 45 #[.int .i64 (n : Int)] w fun e w' => e = .returned (.string (dec n)) ∧ Below w.heap.size w w' := by
  go_enter Tryz.func45, Tryz.ntmps45
  go_wp2
  go_loopw [0, 3] (fun s0 s3 wr => ∃ (j : Nat) (o : ByteArray), s0 = .int .i64 j ∧ s3 = .string o ∧ Lib.decDigits j ++ o.data.toList = Lib.decDigits n ∧ o.size + j ≤ 1000 ∧ Below w.heap.size w wr) (fun s0 _ _ => (intOf s0).toNat)
  case atStart => exact ⟨n, ⟨#[]⟩, rfl, rfl, by simp, Nat.le_trans (Nat.le_of_eq (Nat.zero_add n)) hn, Below.refl _ _⟩
  case round =>
    obtain ⟨j, o, rfl, rfl, he, hs, hbel⟩ := hrel
    have HE := Lib.hid he
    have HB := Lib.hid hbel
    have hsz := hbel.size
    clear he hbel
    have hcv := run_dig
    have h1 : ∀ x : Int, (strOfNums [x]).size = 1 := fun x => strOfNums_size _
    by_cases hj : 9 < j
    · have hr : Int.tmod (j : Int) 10 = ((j % 10 : Nat) : Int) := by rw [Int.tmod_eq_emod_of_nonneg (by omega)]; omega
      have hq : Int.tdiv (j : Int) 10 = ((j / 10 : Nat) : Int) := by rw [Int.tdiv_eq_ediv_of_nonneg (by omega)]; omega
      go_wp2
      go_roundw
      case rel =>
        refine ⟨j / 10, strOfNums [48 + (j : Int) % 10] ++ o, by simp, rfl, ?_, by rw [ByteArray.size_append, h1]; omega, HB.out.alloc hsz _⟩
        have := HE.out
        rw [digits_big hj] at this
        have hx : (48 + (j : Int) % 10).toNat = 48 + j % 10 := by omega
        rw [str_cons, hx, ← this, List.append_assoc]
        rfl
      case measure => simp [intOf]; omega
    · go_wp2
      go_ret
      have key : strOfNums [48 + (j : Int)] ++ o = dec n := by
        have := HE.out
        rw [show Lib.decDigits j = [UInt8.ofNat (48 + j)] by unfold Lib.decDigits; rw [dif_pos (by omega)]] at this
        refine bytes_ext ?_
        have hx : (48 + (j : Int)).toNat = 48 + j := by omega
        rw [str_cons, hx]
        show _ = Lib.itoa (n : Int)
        rw [Lib.itoa, if_neg (by omega), Int.toNat_natCast, ← this]
        rfl
      exact ⟨congrArg (fun x => Ending.returned (.string x)) key, HB.out.alloc hsz _⟩

set_option maxHeartbeats 1000000 in
theorem l12Dec_any (n : Int) (w : World) (h0 : -1000 ≤ n) (h1 : n ≤ 1000) :
    Calls Tryz.prog 45 #[.int .i64 n] w fun e w' => e = .returned (.string (dec n)) ∧ Below w.heap.size w w' := by
  by_cases hn : 0 ≤ n
  · obtain ⟨m, rfl⟩ : ∃ m : Nat, n = m := ⟨n.toNat, by omega⟩
    exact l12Dec_nat m w (by omega)
  · obtain ⟨m, rfl⟩ : ∃ m : Nat, n = -(m : Int) := ⟨(-n).toNat, by omega⟩
    have DN := Lib.hid (fun u => l12Dec_nat m u (by omega))
    have hneg : - -(m : Int) = (m : Int) := by omega
    have hsz : (dec (m : Int)).size ≤ 1000 := Nat.le_trans (dec_size _ (by omega) (by omega)) (by omega)
    have HK : Hid ((⟨#[45]⟩ : ByteArray) ++ dec (m : Int) = dec (-(m : Int))) := by
      refine bytes_ext ?_
      show _ = Lib.itoa (-(m : Int))
      rw [Lib.itoa, if_pos (by omega), show (-(m : Int)).natAbs = m by omega]
      show [45] ++ Lib.itoa (m : Int) = _
      rw [Lib.itoa, if_neg (by omega), Int.toNat_natCast]
      rfl
    have hm1 : (⟨#[45]⟩ : ByteArray).size = 1 := rfl
    go_enter Tryz.func45, Tryz.ntmps45
    go_wp2_with fail
    refine (DN.out _).mono ?_
    rintro e w1 ⟨rfl, hb1⟩
    have B1 := Lib.hid hb1
    clear hb1
    go_wp2
    go_ret
    exact ⟨congrArg (fun x => Ending.returned (.string x)) HK.out, B1.out⟩
end Go.Proofs.YtelimcknhaflfaaGreatDoor
