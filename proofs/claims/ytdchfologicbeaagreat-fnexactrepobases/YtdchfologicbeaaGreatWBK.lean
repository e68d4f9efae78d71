/- Proved here: a block of cells that nothing of is frozen, and what stands in it; no condition. -/
import Derived.Test.YtdchfologicbeaaGreatWBase
namespace Go.Proofs.YtdchfologicbeaaGreat
set_option linter.unusedVariables false
open Go.ChangeShapes Go.WideShapes Go.ChangeAt Go.RowKit

/-- a block of these cells, none frozen -/
def BK (w : World) (b : Nat) (cs : Array Value) (t : TypeId) : Prop := w.heap[b]? = some (.cells cs t (0, 0))

theorem BK.new (w : World) (cs : Array Value) (t : TypeId) : BK (w.alloc (.cells cs t)) w.heap.size cs t := heap_alloc_new w _
theorem BK.at (w : World) (cs : Array Value) (t : TypeId) {b : Nat} (h : w.heap.size = b) : BK (w.alloc (.cells cs t)) b cs t := by subst h; exact BK.new w cs t
theorem BK.lt {w : World} {b : Nat} {cs : Array Value} {t : TypeId} (h : BK w b cs t) : b < w.heap.size := (Array.getElem?_eq_some_iff.1 h).1
theorem BK.later {w w' : World} {b : Nat} {cs : Array Value} {t : TypeId} (h : BK w b cs t) (hb : Below w.heap.size w w') : BK w' b cs t := (hb.block _ h.lt).trans h
theorem BK.alloc {w : World} {b : Nat} {cs : Array Value} {t : TypeId} (h : BK w b cs t) (o : Obj) : BK (w.alloc o) b cs t := h.later ((Below.refl _ _).alloc (Nat.le_refl _) _)
theorem BK.drew {w : World} {b : Nat} {cs : Array Value} {t : TypeId} (h : BK w b cs t) : BK w.drew b cs t := h
theorem BK.cell {w : World} {b : Nat} {cs : Array Value} {t : TypeId} (h : BK w b cs t) (i : Nat) {v : Value} (hv : cs[i]? = some v) : w.cell? ⟨b, i, none⟩ = some v := by
  simp only [World.cell?, show w.heap[b]? = _ from h, Option.isSome_none, Bool.false_eq_true, if_false]
  exact hv
theorem BK.frozen {w : World} {b : Nat} {cs : Array Value} {t : TypeId} (h : BK w b cs t) (i : Nat) : w.frozen? ⟨b, i, none⟩ = false := by
  simp [World.frozen?, show w.heap[b]? = _ from h]
theorem BK.set {w : World} {b : Nat} {cs : Array Value} {t : TypeId} (h : BK w b cs t) (i : Nat) (v : Value) : BK (w.setCell ⟨b, i, none⟩ v) b (cs.setIfInBounds i v) t := by
  simp only [BK, World.setCell, Array.getElem?_modify, show w.heap[b]? = _ from h]
  simp [Option.map]
theorem BK.setOther {w : World} {b c : Nat} {cs : Array Value} {t : TypeId} (h : BK w b cs t) (i : Nat) (v : Value) (hne : c ≠ b) : BK (w.setCell ⟨c, i, none⟩ v) b cs t := by
  show (w.setCell ⟨c, i, none⟩ v).heap[b]? = _
  exact (Below.heap_setCell _ _ _ _ (fun e => hne e.symm)).trans h

end Go.Proofs.YtdchfologicbeaaGreat
