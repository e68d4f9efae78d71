/- Proved here: a list of things that toFeatS laid lies in memory of its own, its parts apart; no condition. -/
import Derived.Test.YtjphlpjippojiabGreatWSheetArg
import Derived.Test.YtjphlpjippojiabGreatWMarkListW
import Derived.Test.YtjphlpjippojiabGreatWQuietB
import Derived.BigQuiet
namespace Go.Proofs.YtjphlpjippojiabGreat
set_option linter.unusedVariables false
open Go.ChangeShapes Go.WideShapes Go.ChangeAt Go.RowKit

/-- where the parts of a copied list lie -/
def plOf (fs : List Ft) (ad : Nat → Nat × Nat) (i : Nat) : Pl := ((some ⟨(ad i).1, 0, none⟩, (fps fs i).length), (some ⟨(ad i).2, 0, none⟩, (fts fs i).length))

theorem lies_of_row {fs : List Ft} {ad : Nat → Nat × Nat} {w : World} {b : Nat} {t : TypeId} (h : w.rowIs b t (fs.length * 4) (featCell fs ad)) (hp : Parts w b fs ad fs.length) : Lies w b 0 fs (plOf fs ad) ∧ Sep b fs.length (plOf fs ad) := by
  refine ⟨⟨fun i hi => ?_, fun i hi => ⟨h.frozen _, h.frozen _⟩, fun i hi => ⟨PtsAt.of_row (hp i hi).1, Soft.of_row (hp i hi).1⟩, fun i hi => ⟨TagsAt.of_row (hp i hi).2.1, Soft.of_row (hp i hi).2.1⟩, h.lt⟩, ?_⟩
  · obtain ⟨b', off', pa, pc, ta, tc, e, _, h1, h2, h3, h4, _⟩ := FeatsAt.of_row h hp i hi
    obtain ⟨rfl, rfl⟩ : b = b' ∧ 0 = off' := by simpa using e
    refine ⟨h1, h2, ?_, ?_⟩
    · have := h.cell (i := i * 4 + 2) (by omega)
      rw [Nat.zero_add, this]
      unfold featCell plOf
      rw [if_neg (by omega), if_neg (by omega), if_pos (by omega), show (i * 4 + 2) / 4 = i by omega]
    · have := h.cell (i := i * 4 + 3) (by omega)
      rw [Nat.zero_add, this]
      unfold featCell plOf
      rw [if_neg (by omega), if_neg (by omega), if_neg (by omega), show (i * 4 + 3) / 4 = i by omega]
  · refine ⟨fun i hi => ?_, fun i hi => ?_, fun i j hi hj hne => ?_⟩
    · obtain ⟨_, _, h3, h4, _⟩ := hp i hi
      constructor <;> (simp [plOf, blk]; omega)
    · obtain ⟨_, _, _, _, h5, _⟩ := hp i hi
      intro x hx e
      simp only [plOf, blk, Option.map_some, Option.some.injEq] at hx e
      omega
    · have key : ∀ i j, j < fs.length → i < j → (ad i).1 ≠ (ad j).1 ∧ (ad i).1 ≠ (ad j).2 ∧ (ad i).2 ≠ (ad j).1 ∧ (ad i).2 ≠ (ad j).2 := fun i j hj hij => by
        obtain ⟨_, _, _, _, _, h6⟩ := hp j hj
        have := h6 i hij
        omega
      have kk : (ad i).1 ≠ (ad j).1 ∧ (ad i).1 ≠ (ad j).2 ∧ (ad i).2 ≠ (ad j).1 ∧ (ad i).2 ≠ (ad j).2 := by
        rcases Nat.lt_or_gt_of_ne hne with h | h
        · exact key i j hj h
        · have := key j i hi h
          omega
      refine ⟨fun x hx e => ?_, fun x hx e => ?_, fun x hx e => ?_, fun x hx e => ?_⟩ <;> (simp only [plOf, blk, Option.map_some, Option.some.injEq] at hx e; omega)

theorem blocks_of_row {fs : List Ft} {ad : Nat → Nat × Nat} {w0 w : World} {b : Nat} {t : TypeId} (h : w.rowIs b t (fs.length * 4) (featCell fs ad)) (hp : Parts w b fs ad fs.length) (hb : w0.heap.size ≤ b) : ∀ x, blocksOf b fs.length (plOf fs ad) x → w0.heap.size ≤ x ∧ x < w.heap.size := by
  rintro x (rfl | ⟨i, hi, e | e⟩)
  · exact ⟨hb, h.lt⟩
  · obtain ⟨h1, _, h3, _⟩ := hp i hi
    have := h1.lt
    simp only [plOf, blk, Option.map_some, Option.some.injEq] at e
    omega
  · obtain ⟨_, h2, _, h4, _⟩ := hp i hi
    have := h2.lt
    simp only [plOf, blk, Option.map_some, Option.some.injEq] at e
    omega

theorem Box4.turned {w w' : World} {b : Nat} {v0 v1 v2 v3 : Value} {S : Nat → Prop} (h : Box4 w b v0 v1 v2 v3) (ht : Turned w w' S) (hn : ¬ S b) : Box4 w' b v0 v1 v2 v3 :=
  ⟨ht.cell h.1 hn, ht.cell h.2.1 hn, ht.cell h.2.2.1 hn, ht.cell h.2.2.2 hn⟩

theorem Turned.of_two {w w' : World} {a c : Option Addr} (h : Grown2 w w' a c) : Turned w w' (fun x => blk a = some x ∨ blk c = some x) := by
  obtain ⟨u, h1, h2⟩ := h
  exact (Turned.of_grown h1 fun x hx => .inl hx).trans (Turned.of_grown h2 fun x hx => .inr hx)

end Go.Proofs.YtjphlpjippojiabGreat
