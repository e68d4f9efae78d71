/- Proved here: a region that draws its order, whose operations only read and whose callees write no memory that was there ahead of the region: one walk of the order of the text serves every order; no condition. -/
import Derived.Test.YtdfadpejddhbkaaGreatWBase
import Derived.Deep.Quiet
namespace Go.Proofs.YtdfadpejddhbkaaGreat
set_option linter.unusedVariables false
open Go.ChangeShapes Go.WideShapes Go.ChangeAt Go.RowKit

/-- the worlds in which what lies below is kept -/
def Kept (w : World) : Type := { u : World // Below w.heap.size w u }

instance (w : World) : Nonempty (Kept w) := ⟨⟨w, Below.refl _ _⟩⟩

theorem wp_region_kept {P : Program} {id : Nat} {Q : Exit → Act → World → Prop} {a : Act} {w : World} {l : List Oper} (hm : P.follows .mixedOrders = true) (hB : Region.lexB .any l.toArray = true)
    (h : wpQuiet P l.toArray (fun w' => ∃ x : Kept w, w' = x.1) (fun a' => ∀ w', (∃ x : Kept w, w' = x.1) → Q .normal a' w') l a) : (Code.region id l.toArray true).wp P Q a w :=
  wp_region_quiet (C := fun w' => ∃ x : Kept w, w' = x.1) hm hB ⟨⟨_, (Below.refl _ _).drew⟩, rfl⟩ (by simpa using h)

theorem Kept.cell {w : World} (x : Kept w) {a : Addr} {v : Value} (h : w.cell? a = some v) : x.1.cell? a = some v := cell_later x.2 h

theorem Kept.calls {P : Program} {f : FuncId} {args : Array Value} {w : World} {v : Value} (x : Kept w) (h : Calls P f args x.1 fun e w' => e = .returned v ∧ Below x.1.heap.size x.1 w') :
    Calls P f args x.1 fun e w' => e = .returned v ∧ ∃ y : Kept w, w' = y.1 :=
  h.mono fun _ w' ⟨he, hb⟩ => ⟨he, ⟨w', x.2.trans (hb.mono x.2.size)⟩, rfl⟩
end Go.Proofs.YtdfadpejddhbkaaGreat
