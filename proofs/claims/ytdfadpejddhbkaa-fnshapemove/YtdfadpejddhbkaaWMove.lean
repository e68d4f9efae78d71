/- Proved here: parts of ShapeMove: the copy of a shape; rows that are filled place by place; a row laid by appends. Rows of at most 1,048,576 points. -/
import Derived.Test.YtdfadpejddhbkaaWBackS
import Derived.Test.YtdfadpejddhbkaaWRev
import Derived.StillTailTactics
namespace Go.Proofs.Ytdfadpejddhbkaa
set_option linter.unusedVariables false
open Go.ChangeShapes Go.WideShapes Go.ChangeAt Go.RowKit Go.Deep

/-- a row by what stands at each place; nothing else has turned -/
def RowFill (w : World) (b off n : Nat) (f : Nat → Int × Int) (wr : World) : Prop :=
  (∀ i, i < n → wr.cell? ⟨b, off + i * 2, none⟩ = some (.int .i64 (f i).1) ∧ wr.cell? ⟨b, off + i * 2 + 1, none⟩ = some (.int .i64 (f i).2)) ∧ (∀ x, wr.frozen? x = w.frozen? x) ∧ w.grownBy wr (some b) ∧ wr.heap.size = w.heap.size

theorem RowFill.start {w : World} {b off : Nat} {ps : List (Int × Int)} (hp : PtsAt w (some ⟨b, off, none⟩) ps) : RowFill w b off ps.length (fun i => (px ps i, py ps i)) w := by
  refine ⟨fun i hi => ?_, fun _ => rfl, World.grownBy.refl _ _, rfl⟩
  obtain ⟨b', off', e, _, h1, h2⟩ := hp i hi
  obtain ⟨rfl, rfl⟩ : b = b' ∧ off = off' := by simpa using e
  exact ⟨h1, h2⟩

theorem RowFill.congr {w wr : World} {b off n : Nat} {f g : Nat → Int × Int} (h : RowFill w b off n f wr) (e : ∀ i, i < n → f i = g i) : RowFill w b off n g wr :=
  ⟨fun i hi => by rw [← e i hi]; exact h.1 i hi, h.2⟩

theorem RowFill.drew {w wr : World} {b off n : Nat} {f : Nat → Int × Int} (h : RowFill w b off n f wr) : RowFill w b off n f wr.drew := ⟨h.1, h.2.1, grown_drew h.2.2.1, h.2.2.2⟩

theorem RowFill.set {w wr : World} {b off n j : Nat} {f : Nat → Int × Int} (h : RowFill w b off n f wr) (hj : j < n) (x y : Int) :
    RowFill w b off n (fun i => if i = j then (x, y) else f i) ((wr.setCell ⟨b, off + j * 2, none⟩ (.int .i64 x)).setCell ⟨b, off + j * 2 + 1, none⟩ (.int .i64 y)) := by
  obtain ⟨hc, hf, hg, hs⟩ := h
  have far : ∀ (W : World) (o o' : Nat) (v : Value), o ≠ o' → (W.setCell ⟨b, o, none⟩ v).cell? ⟨b, o', none⟩ = W.cell? ⟨b, o', none⟩ := fun W o o' v hne => World.cell?_setCell_other W ⟨b, o, none⟩ ⟨b, o', none⟩ v (fun h => hne (congrArg Addr.off h))
  refine ⟨fun i hi => ?_, fun x => by rw [World.frozen?_setCell, World.frozen?_setCell, hf], grown_set (grown_set hg _ _) _ _, by simp [World.setCell, hs]⟩
  obtain ⟨h1, h2⟩ := hc i hi
  by_cases e : i = j
  · subst e
    simp only [if_true]
    refine ⟨?_, ?_⟩
    · rw [far _ _ _ _ (by omega)]
      exact World.cell?_setCell_same _ _ _ h1
    · exact World.cell?_setCell_same _ _ _ ((far _ _ _ _ (by omega)).trans h2)
  · simp only [if_neg e]
    refine ⟨?_, ?_⟩
    · rw [far _ _ _ _ (by omega), far _ _ _ _ (by omega)]
      exact h1
    · rw [far _ _ _ _ (by omega), far _ _ _ _ (by omega)]
      exact h2

theorem RowFill.pts {w wr : World} {b off : Nat} {f : Nat → Int × Int} {ps : List (Int × Int)} (h : RowFill w b off ps.length f wr) (hb : b < w.heap.size) (e : ∀ i, i < ps.length → f i = (px ps i, py ps i)) : PtsAt wr (some ⟨b, off, none⟩) ps := by
  intro i hi
  obtain ⟨h1, h2⟩ := h.1 i hi
  rw [e i hi] at h1 h2
  exact ⟨b, off, rfl, by rw [h.2.2.2]; exact hb, h1, h2⟩

theorem RowFill.soft {w wr : World} {b off n : Nat} {f : Nat → Int × Int} (h : RowFill w b off n f wr) (hs : Soft w (some ⟨b, off, none⟩) n) : Soft wr (some ⟨b, off, none⟩) n := by
  intro i hi b' off' e
  rw [h.2.1, h.2.1]
  exact hs i hi b' off' e

end Go.Proofs.Ytdfadpejddhbkaa
