/- Proved here: marking a shape's points writes the marks into its own row and nothing else, and asking for the marks finds them; rows of at most 1,048,576 points that may be written. -/
import Derived.Test.YtdfadpejddhbkaaWBase
import Derived.Deep.AppendLies
import Derived.Maps.AppendAt
namespace Go.Proofs.Ytdfadpejddhbkaa
set_option linter.unusedVariables false
open Go.ChangeShapes Go.WideShapes Go.ChangeAt Go.RowKit

/-- the marks from k on -/
def marks (k : Int) (n : Nat) : List (Int × Int) := (List.range n).map fun (i : Nat) => (k + 2 * (i : Int), k + 2 * (i : Int) + 1)

theorem marks_len (k : Int) (n : Nat) : (marks k n).length = n := by simp [marks]
theorem marks_x (k : Int) {n i : Nat} (h : i < n) : px (marks k n) i = k + 2 * (i : Int) := by simp [px, marks, h]
theorem marks_y (k : Int) {n i : Nat} (h : i < n) : py (marks k n) i = k + 2 * (i : Int) + 1 := by simp [py, marks, h]

/-- the row may be written -/
def Soft (w : World) (a : Option Addr) (n : Nat) : Prop := ∀ i, i < n → ∀ b off, a = some ⟨b, off, none⟩ → w.frozen? ⟨b, off + i * 2, none⟩ = false ∧ w.frozen? ⟨b, off + i * 2 + 1, none⟩ = false

theorem Soft.below {w w' : World} {a : Option Addr} {ps : List (Int × Int)} (h : Soft w a ps.length) (hp : PtsAt w a ps) (hb : Below w.heap.size w w') : Soft w' a ps.length := by
  intro i hi b off e
  obtain ⟨b', off', e', hlt, _, _⟩ := hp i hi
  obtain ⟨rfl, rfl⟩ : b = b' ∧ off = off' := by rw [e] at e'; simpa using e'
  obtain ⟨h1, h2⟩ := h i hi b off e
  exact ⟨by rw [hb.frozen (p := ⟨b, _, none⟩) hlt]; exact h1, by rw [hb.frozen (p := ⟨b, _, none⟩) hlt]; exact h2⟩

theorem Soft.of_row {w : World} {b n m : Nat} {t : TypeId} {f : Nat → Value} (h : w.rowIs b t m f) : Soft w (some ⟨b, 0, none⟩) n := by
  intro i hi b' off e
  obtain ⟨rfl, rfl⟩ : b = b' ∧ 0 = off := by simpa using e
  exact ⟨h.frozen _, h.frozen _⟩

/-- the block that a slice leads to -/
def blk (a : Option Addr) : Option Nat := a.map (·.block)

/-- what marking leaves: the marks, and all else as it was -/
def Marked (w : World) (a : Option Addr) (n : Nat) (k : Int) (w' : World) : Prop := PtsAt w' a (marks k n) ∧ Soft w' a n ∧ w.grownBy w' (blk a) ∧ w'.heap.size = w.heap.size

/-- a round's world -/
def Marking (w : World) (b off : Nat) (ps : List (Int × Int)) (k : Int) (j : Nat) (wr : World) : Prop :=
  (∀ i, i < ps.length → wr.cell? ⟨b, off + i * 2, none⟩ = some (.int .i64 (if i < j then k + 2 * (i : Int) else px ps i)) ∧ wr.cell? ⟨b, off + i * 2 + 1, none⟩ = some (.int .i64 (if i < j then k + 2 * (i : Int) + 1 else py ps i))) ∧
  (∀ x, wr.frozen? x = w.frozen? x) ∧ w.grownBy wr (some b) ∧ wr.heap.size = w.heap.size

theorem grown_set {w w' : World} {b : Nat} (h : w.grownBy w' (some b)) (o : Nat) (v : Value) : w.grownBy (w'.setCell ⟨b, o, none⟩ v) (some b) :=
  h.trans ⟨rfl, rfl, rfl, by simp [World.setCell], fun k _ hne => Below.heap_setCell _ _ _ _ (fun e => hne (by rw [e]))⟩

theorem marking_step {w : World} {b off : Nat} {ps : List (Int × Int)} {k : Int} {j : Nat} {wr : World} (hj : j < ps.length) (h : Marking w b off ps k j wr) :
    Marking w b off ps k (j + 1) ((wr.setCell ⟨b, off + j * 2, none⟩ (.int .i64 (k + 2 * (j : Int)))).setCell ⟨b, off + j * 2 + 1, none⟩ (.int .i64 (k + 2 * (j : Int) + 1))) := by
  obtain ⟨hc, hf, hg, hs⟩ := h
  refine ⟨fun i hi => ?_, fun x => by simp [World.frozen?_setCell, hf], grown_set (grown_set hg _ _) _ _, by simp [World.setCell, hs]⟩
  obtain ⟨h1, h2⟩ := hc i hi
  by_cases e : i = j
  · subst e
    rw [if_pos (by omega), if_pos (by omega)]
    refine ⟨?_, ?_⟩
    · rw [World.cell?_setCell_other _ _ _ _ (by simp)]
      exact World.cell?_setCell_same _ _ _ h1
    · exact World.cell?_setCell_same _ _ _ ((World.cell?_setCell_other _ _ _ _ (by simp)).trans h2)
  · have e1 : (i < j + 1) = (i < j) := by simp; omega
    simp only [e1]
    refine ⟨?_, ?_⟩
    · rw [World.cell?_setCell_other _ _ _ _ (by simp <;> omega), World.cell?_setCell_other _ _ _ _ (by simp <;> omega)]
      exact h1
    · rw [World.cell?_setCell_other _ _ _ _ (by simp <;> omega), World.cell?_setCell_other _ _ _ _ (by simp <;> omega)]
      exact h2

/-- what marking a shape leaves -/
def MarkedS (w : World) (a : Option Addr) (n : Nat) (k : Int) (w' : World) : Prop := PtsAt w' a (marks k n) ∧ Soft w' a n ∧ w.grownBy w' (blk a)

/-- what lies in another block is kept -/
theorem PtsAt.grown {w w' : World} {a : Option Addr} {ps : List (Int × Int)} {r : Option Nat} (h : PtsAt w a ps) (hg : w.grownBy w' r) (hne : ps.length = 0 ∨ blk a ≠ r) : PtsAt w' a ps := by
  intro i hi
  obtain ⟨b, off, rfl, hlt, h1, h2⟩ := h i hi
  have hb : some b ≠ r := by
    rcases hne with h | h
    · omega
    · exact h
  exact ⟨b, off, rfl, Nat.lt_of_lt_of_le hlt hg.size, by rw [hg.cell_far _ hlt hb]; exact h1, by rw [hg.cell_far _ hlt hb]; exact h2⟩
end Go.Proofs.Ytdfadpejddhbkaa
