/- Proved here: the text of a mark is one and the same wherever it is written; marks of at most 8,388,608. -/
import Derived.Test.YtdfadpejddhbkaaGreatWTag
import Derived.Laws.BytesArg
import Derived.Laws.Concat
namespace Go.Proofs.YtdfadpejddhbkaaGreat
set_option linter.unusedVariables false
open Go.ChangeShapes Go.WideShapes Go.ChangeAt Go.RowKit

/-- a digit -/
def dig (j : Nat) : ByteArray := strOfNums [((48 + j % 10 : Nat) : Int)]
/-- the digits of a number, ahead of what is there -/
def decTo (j : Nat) (o : ByteArray) : ByteArray := if h : j = 0 then o else decTo (j / 10) (dig j ++ o)
termination_by j
decreasing_by omega

theorem decTo_step {j : Nat} (h : 0 < j) (o : ByteArray) : decTo (j / 10) (dig j ++ o) = decTo j o := by
  conv => rhs; unfold decTo
  rw [dif_neg (by omega)]

theorem dig_size (j : Nat) : (dig j).size = 1 := strOfNums_size _

/-- the text of a mark -/
def markT (k : Int) : ByteArray := if k ≤ 0 then ⟨#[109, 48]⟩ else ⟨#[109]⟩ ++ decTo k.toNat ⟨#[]⟩

theorem run_dig (u : World) (x : Int) : (convert 22 9 (.slice (some ⟨u.heap.size, 0, none⟩) 1 1)).run Tryz.prog (u.alloc (.cells #[.int .u8 x] 5)) = .ok (.string (strOfNums [x])) (u.alloc (.cells #[.int .u8 x] 5)) :=
  run_convert_bytes_arg (P := Tryz.prog) _ 22 5 Tryz.underlying22 Tryz.underlying5 u.heap.size 0 1 1 [x] rfl (fun i hi => by obtain rfl : i = 0 := (by omega); simp [go_sem]) 9 Tryz.underlying9

set_option maxHeartbeats 1000000 in
theorem markText_any (k : Int) (w : World) (hk : k ≤ 2305843009213693952) :
    Calls Tryz.prog 106 #[.int .i64 k] w fun e w' => e = .returned (.string (markT k)) ∧ Below w.heap.size w w' := by
  by_cases h0 : k ≤ 0
  · have HM : Hid (markT k = ⟨#[109, 48]⟩) := by simp [Hid, markT, h0]
    go_enter Tryz.func106, Tryz.ntmps106
    go_wp2
    go_ret
    exact ⟨by rw [HM.out]; rfl, Below.refl _ _⟩
  · obtain ⟨n, rfl⟩ : ∃ n : Nat, k = n := ⟨k.toNat, by omega⟩
    have HM : Hid (markT (n : Int) = ⟨#[109]⟩ ++ decTo n ⟨#[]⟩) := by
      show _ = _
      rw [markT, if_neg h0]
      rfl
    go_enter Tryz.func106, Tryz.ntmps106
    go_wp2
    go_loopw [0, 3] (fun s0 s3 wr => ∃ (j : Nat) (o : ByteArray), s0 = .int .i64 j ∧ s3 = .string o ∧ decTo j o = decTo n ⟨#[]⟩ ∧ o.size + j ≤ n ∧ Below w.heap.size w wr) (fun s0 _ _ => (intOf s0).toNat)
    case atStart => exact ⟨n, ⟨#[]⟩, rfl, rfl, rfl, Nat.le_of_eq (Nat.zero_add n), Below.refl _ _⟩
    case round =>
      obtain ⟨j, o, rfl, rfl, he, hs, hbel⟩ := hrel
      have HE := Lib.hid he
      have HB := Lib.hid hbel
      have hsz := hbel.size
      clear he hbel
      by_cases hj : 0 < j
      · have hcv := run_dig
        have hr : Int.tmod (j : Int) 10 = ((j % 10 : Nat) : Int) := by rw [Int.tmod_eq_emod_of_nonneg (by omega)]; omega
        have hq : Int.tdiv (j : Int) 10 = ((j / 10 : Nat) : Int) := by rw [Int.tdiv_eq_ediv_of_nonneg (by omega)]; omega
        have h1 : ∀ x : Int, (strOfNums [x]).size = 1 := fun x => strOfNums_size _
        have HD : Hid (strOfNums [48 + (j : Int) % 10] = dig j) := by
          show _ = _
          unfold dig
          congr 2
        go_wp2
        go_roundw
        case rel => exact ⟨j / 10, dig j ++ o, by simp, by rw [HD.out], by rw [decTo_step hj]; exact HE.out, by rw [ByteArray.size_append, dig_size]; omega, HB.out.alloc hsz _⟩
        case measure => simp [intOf]; omega
      · obtain rfl : j = 0 := by omega
        have he := HE.out
        rw [show decTo 0 o = o by unfold decTo; rfl] at he
        subst he
        have hsz2 : (decTo n ⟨#[]⟩).size ≤ 2305843009213693952 := by omega
        have h1 : (⟨#[109]⟩ : ByteArray).size = 1 := rfl
        go_wp2
        go_ret
        exact ⟨by rw [HM.out]; rfl, HB.out⟩
end Go.Proofs.YtdfadpejddhbkaaGreat
