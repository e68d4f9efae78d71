/- Proved here: marking tags writes the marks into their own row and nothing else, and asking for the marks finds them; rows of at most 1,048,576 tags that may be written. -/
import Derived.Test.YtdfadpejddhbkaaWMarkText
import Derived.Test.YtdfadpejddhbkaaWMark
import Derived.Deep.RegionHeld3
import Derived.Deep.DeepCutAuto
namespace Go.Proofs.Ytdfadpejddhbkaa
set_option linter.unusedVariables false
open Go.ChangeShapes Go.WideShapes Go.ChangeAt Go.RowKit

/-- the marks of tags from k on -/
def marksT (k : Int) (n : Nat) : List Tg := (List.range n).map fun (i : Nat) => (markT (k + 2 * (i : Int)), markT (k + 2 * (i : Int) + 1))
theorem marksT_len (k : Int) (n : Nat) : (marksT k n).length = n := by simp [marksT]
theorem marksT_k (k : Int) {n i : Nat} (h : i < n) : tk (marksT k n) i = markT (k + 2 * (i : Int)) := by simp [tk, marksT, h]
theorem marksT_v (k : Int) {n i : Nat} (h : i < n) : tv (marksT k n) i = markT (k + 2 * (i : Int) + 1) := by simp [tv, marksT, h]

/-- a row of texts that may be written, all else as it was -/
structure MarkW (w : World) (b off m : Nat) (c : Nat → ByteArray) (wr : World) : Prop where
  cell : ∀ x, x < m → wr.cell? ⟨b, off + x, none⟩ = some (.string (c x))
  soft : ∀ x, x < m → wr.frozen? ⟨b, off + x, none⟩ = false
  grown : w.grownBy wr (some b)
  lt : b < wr.heap.size

theorem MarkW.below {w wr w1 : World} {b off m : Nat} {c : Nat → ByteArray} (h : MarkW w b off m c wr) (hb : Below wr.heap.size wr w1) : MarkW w b off m c w1 :=
  ⟨fun x hx => cell_later hb (h.cell x hx), fun x hx => (hb.frozen (p := ⟨b, _, none⟩) h.lt).trans (h.soft x hx), h.grown.trans ⟨hb.os, hb.tape, hb.output, hb.size, fun k hk _ => hb.block k hk⟩, Nat.lt_of_lt_of_le h.lt hb.size⟩

theorem MarkW.set {w wr : World} {b off m : Nat} {c : Nat → ByteArray} (h : MarkW w b off m c wr) {y : Nat} (s : ByteArray) (hy : y < m) : MarkW w b off m (fun x => if x = y then s else c x) (wr.setCell ⟨b, off + y, none⟩ (.string s)) := by
  refine ⟨fun x hx => ?_, fun x hx => by rw [World.frozen?_setCell]; exact h.soft x hx, grown_set h.grown _ _, by simpa [World.setCell] using h.lt⟩
  by_cases e : x = y
  · subst e
    rw [if_pos rfl]
    exact World.cell?_setCell_same _ _ _ (h.cell x hx)
  · rw [if_neg e, World.cell?_setCell_other _ _ _ _ (by simp <;> omega)]
    exact h.cell x hx

theorem MarkW.congr {w wr : World} {b off m : Nat} {c d : Nat → ByteArray} (h : MarkW w b off m c wr) (e : ∀ x, x < m → c x = d x) : MarkW w b off m d wr :=
  ⟨fun x hx => by rw [h.cell x hx, e x hx], h.soft, h.grown, h.lt⟩

/-- the text at a cell -/
def txt (ts : List Tg) (x : Nat) : ByteArray := if x % 2 = 0 then tk ts (x / 2) else tv ts (x / 2)
/-- how far the marks are written -/
def mkTo (ts : List Tg) (k : Int) (j x : Nat) : ByteArray := if x < j * 2 then markT (k + (x : Int)) else txt ts x

theorem mkTo_step (ts : List Tg) (k : Int) (j x : Nat) : (if x = j * 2 + 1 then markT (k + 2 * (j : Int) + 1) else if x = j * 2 then markT (k + 2 * (j : Int)) else mkTo ts k j x) = mkTo ts k (j + 1) x := by
  unfold mkTo
  by_cases h1 : x = j * 2 + 1
  · subst h1
    rw [if_pos rfl, if_pos (by omega)]
    congr 1
    omega
  · rw [if_neg h1]
    by_cases h2 : x = j * 2
    · subst h2
      rw [if_pos rfl, if_pos (by omega)]
      congr 1
      omega
    · rw [if_neg h2]
      by_cases h3 : x < j * 2
      · rw [if_pos h3, if_pos (by omega)]
      · rw [if_neg h3, if_neg (by omega)]

theorem MarkW.start {w : World} {b off : Nat} {ts : List Tg} (k : Int) (hp : TagsAt w (some ⟨b, off, none⟩) ts) (hs : Soft w (some ⟨b, off, none⟩) ts.length) (h0 : 0 < ts.length) : MarkW w b off (ts.length * 2) (mkTo ts k 0) w := by
  have hlt : b < w.heap.size := by
    obtain ⟨b', off', e, hlt, _⟩ := hp 0 h0
    obtain ⟨rfl, rfl⟩ : b = b' ∧ off = off' := by simpa using e
    exact hlt
  refine ⟨fun x hx => ?_, fun x hx => ?_, World.grownBy.refl _ _, hlt⟩
  · obtain ⟨b', off', e, _, h1, h2⟩ := hp (x / 2) (by omega)
    obtain ⟨rfl, rfl⟩ : b = b' ∧ off = off' := by simpa using e
    unfold mkTo txt
    rw [if_neg (by omega)]
    by_cases hx2 : x % 2 = 0
    · rw [if_pos hx2, show off + x = off + x / 2 * 2 by omega]
      exact h1
    · rw [if_neg hx2, show off + x = off + x / 2 * 2 + 1 by omega]
      exact h2
  · obtain ⟨h1, h2⟩ := hs (x / 2) (by omega) b off rfl
    by_cases hx2 : x % 2 = 0
    · rw [show off + x = off + x / 2 * 2 by omega]
      exact h1
    · rw [show off + x = off + x / 2 * 2 + 1 by omega]
      exact h2

/-- what marking tags leaves: the marks, and all else as it was -/
def MarkedT (w : World) (a : Option Addr) (n : Nat) (k : Int) (w' : World) : Prop := TagsAt w' a (marksT k n) ∧ Soft w' a n ∧ w.grownBy w' (blk a)

end Go.Proofs.Ytdfadpejddhbkaa
