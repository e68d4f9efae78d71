/- Proved here: the text of a mark is one and the same wherever it is written; marks of at most 8,388,608. -/
import Derived.Test.YtdfadpejddhbkaaWTag
import Derived.Laws.BytesArg
import Derived.Laws.Concat
namespace Go.Proofs.Ytdfadpejddhbkaa
set_option linter.unusedVariables false
open Go.ChangeShapes Go.WideShapes Go.ChangeAt Go.RowKit

/-- a digit -/
def dig (j : Nat) : ByteArray := strOfNums [((48 + j % 10 : Nat) : Int)]
/-- the digits of a number, ahead of what is there -/
def decTo (j : Nat) (o : ByteArray) : ByteArray := if h : j = 0 then o else decTo (j / 10) (dig j ++ o)
termination_by j
decreasing_by omega

theorem decTo_step {j : Nat} (h : 0 < j) (o : ByteArray) : decTo (j / 10) (dig j ++ o) = decTo j o := by
  conv => rhs; unfold decTo
  rw [dif_neg (by omega)]

theorem dig_size (j : Nat) : (dig j).size = 1 := strOfNums_size _

/-- the text of a mark -/
def markT (k : Int) : ByteArray := if k ≤ 0 then ⟨#[109, 48]⟩ else ⟨#[109]⟩ ++ decTo k.toNat ⟨#[]⟩

theorem run_dig (u : World) (x : Int) : (convert 22 9 (.slice (some ⟨u.heap.size, 0, none⟩) 1 1)).run Try.prog (u.alloc (.cells #[.int .u8 x] 5)) = .ok (.string (strOfNums [x])) (u.alloc (.cells #[.int .u8 x] 5)) :=
  run_convert_bytes_arg (P := Try.prog) _ 22 5 Try.underlying22 Try.underlying5 u.heap.size 0 1 1 [x] rfl (fun i hi => by obtain rfl : i = 0 := (by omega); simp [go_sem]) 9 Try.underlying9

end Go.Proofs.Ytdfadpejddhbkaa
