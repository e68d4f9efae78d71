/- Proved here: marking a thing writes the marks into its own two rows and nothing else, and asking for the marks finds them; rows of at most 1,048,576 points and tags that may be written and lie apart. -/
import Derived.Test.YtdfadpejddhbkaaWMarkTag
import Derived.Test.YtdfadpejddhbkaaWFeat
import Derived.Test.YtdfadpejddhbkaaWBack
import Derived.Test.YtdfadpejddhbkaaWBox4
namespace Go.Proofs.Ytdfadpejddhbkaa
set_option linter.unusedVariables false
open Go.ChangeShapes Go.WideShapes Go.ChangeAt Go.RowKit

/-- two slices that do not lie in one block -/
def Apart (a c : Option Addr) : Prop := ∀ x, blk a = some x → blk c ≠ some x

/-- only two blocks have turned -/
def Grown2 (w w' : World) (a c : Option Addr) : Prop := ∃ u, w.grownBy u (blk a) ∧ u.grownBy w' (blk c)

theorem Grown2.cell {w w' : World} {a c : Option Addr} (h : Grown2 w w' a c) {b o : Nat} {v : Value} (h1 : blk a ≠ some b) (h2 : blk c ≠ some b) (hv : w.cell? ⟨b, o, none⟩ = some v) : w'.cell? ⟨b, o, none⟩ = some v := by
  obtain ⟨u, g1, g2⟩ := h
  have hlt := World.block_lt_of_cell? _ _ hv
  rw [g2.cell_far _ (Nat.lt_of_lt_of_le hlt g1.size) (Ne.symm h2), g1.cell_far _ hlt (Ne.symm h1)]
  exact hv

theorem Grown2.below {w w' : World} {a c : Option Addr} {B : Nat} {w0 : World} (h : Grown2 w w' a c) (hb : Below B w0 w) (hB : B ≤ w.heap.size) (h1 : ∀ x, blk a = some x → B ≤ x) (h2 : ∀ x, blk c = some x → B ≤ x) : Below B w0 w' := by
  obtain ⟨u, g1, g2⟩ := h
  have hu := hb.grown g1 hB h1
  exact hu.grown g2 (Nat.le_trans hB g1.size) h2

theorem TagsAt.grown {w w' : World} {a : Option Addr} {ts : List Tg} {r : Option Nat} (h : TagsAt w a ts) (hg : w.grownBy w' r) (hne : ts.length = 0 ∨ blk a ≠ r) : TagsAt w' a ts := by
  intro i hi
  obtain ⟨b, off, rfl, hlt, h1, h2⟩ := h i hi
  have hb : some b ≠ r := by
    rcases hne with h | h
    · omega
    · exact h
  exact ⟨b, off, rfl, Nat.lt_of_lt_of_le hlt hg.size, by rw [hg.cell_far _ hlt hb]; exact h1, by rw [hg.cell_far _ hlt hb]; exact h2⟩

theorem Soft.grown {w w' : World} {a : Option Addr} {n : Nat} {r : Option Nat} (h : Soft w a n) (hg : w.grownBy w' r) (hlt : ∀ x, blk a = some x → x < w.heap.size) (hne : n = 0 ∨ blk a ≠ r) : Soft w' a n := by
  intro i hi b off e
  have hb : some b ≠ r := by
    rcases hne with h | h
    · omega
    · rw [e] at h; exact h
  have hl : b < w.heap.size := hlt b (by rw [e]; rfl)
  obtain ⟨h1, h2⟩ := h i hi b off e
  exact ⟨(hg.frozen_far ⟨b, _, none⟩ hl hb).trans h1, (hg.frozen_far ⟨b, _, none⟩ hl hb).trans h2⟩

theorem TagsAt.lt {w : World} {a : Option Addr} {ts : List Tg} (h : TagsAt w a ts) (h0 : 0 < ts.length) : ∀ x, blk a = some x → x < w.heap.size := by
  intro x e
  obtain ⟨b, off, rfl, hlt, _⟩ := h 0 h0
  obtain rfl : b = x := by simpa [blk] using e
  exact hlt

theorem Soft.belowT {w w' : World} {a : Option Addr} {ts : List Tg} (h : Soft w a ts.length) (hp : TagsAt w a ts) (hb : Below w.heap.size w w') : Soft w' a ts.length := by
  intro i hi b off e
  obtain ⟨b', off', e', hlt, _, _⟩ := hp i hi
  obtain ⟨rfl, rfl⟩ : b = b' ∧ off = off' := by rw [e] at e'; simpa using e'
  obtain ⟨h1, h2⟩ := h i hi b off e
  exact ⟨by rw [hb.frozen (p := ⟨b, _, none⟩) hlt]; exact h1, by rw [hb.frozen (p := ⟨b, _, none⟩) hlt]; exact h2⟩

/-- what lies in neither block is kept -/
theorem PtsAt.grown2 {w w' : World} {x y a : Option Addr} {ps : List (Int × Int)} (h : PtsAt w a ps) (hg : Grown2 w w' x y) (hne : ∀ z, blk a = some z → blk x ≠ some z ∧ blk y ≠ some z) : PtsAt w' a ps := by
  intro i hi
  obtain ⟨b, off, rfl, hlt, h1, h2⟩ := h i hi
  obtain ⟨n1, n2⟩ := hne b rfl
  obtain ⟨u, g1, g2⟩ := hg
  exact ⟨b, off, rfl, Nat.lt_of_lt_of_le hlt (Nat.le_trans g1.size g2.size), Grown2.cell ⟨u, g1, g2⟩ n1 n2 h1, Grown2.cell ⟨u, g1, g2⟩ n1 n2 h2⟩
theorem TagsAt.grown2 {w w' : World} {x y a : Option Addr} {ts : List Tg} (h : TagsAt w a ts) (hg : Grown2 w w' x y) (hne : ∀ z, blk a = some z → blk x ≠ some z ∧ blk y ≠ some z) : TagsAt w' a ts := by
  intro i hi
  obtain ⟨b, off, rfl, hlt, h1, h2⟩ := h i hi
  obtain ⟨n1, n2⟩ := hne b rfl
  obtain ⟨u, g1, g2⟩ := hg
  exact ⟨b, off, rfl, Nat.lt_of_lt_of_le hlt (Nat.le_trans g1.size g2.size), Grown2.cell ⟨u, g1, g2⟩ n1 n2 h1, Grown2.cell ⟨u, g1, g2⟩ n1 n2 h2⟩
theorem Soft.grown2 {w w' : World} {x y a : Option Addr} {n : Nat} (h : Soft w a n) (hg : Grown2 w w' x y) (hlt : ∀ z, blk a = some z → z < w.heap.size) (hne : ∀ z, blk a = some z → blk x ≠ some z ∧ blk y ≠ some z) : Soft w' a n := by
  intro i hi b off e
  have hb : blk a = some b := by rw [e]; rfl
  obtain ⟨n1, n2⟩ := hne b hb
  have hl := hlt b hb
  obtain ⟨u, g1, g2⟩ := hg
  obtain ⟨h1, h2⟩ := h i hi b off e
  have hl2 : b < u.heap.size := Nat.lt_of_lt_of_le hl g1.size
  exact ⟨(g2.frozen_far ⟨b, _, none⟩ hl2 (Ne.symm n2)).trans ((g1.frozen_far ⟨b, _, none⟩ hl (Ne.symm n1)).trans h1), (g2.frozen_far ⟨b, _, none⟩ hl2 (Ne.symm n2)).trans ((g1.frozen_far ⟨b, _, none⟩ hl (Ne.symm n1)).trans h2)⟩
theorem Box4.grown2 {w w' : World} {x y : Option Addr} {b : Nat} {v0 v1 v2 v3 : Value} (h : Box4 w b v0 v1 v2 v3) (hg : Grown2 w w' x y) (hne : blk x ≠ some b ∧ blk y ≠ some b) : Box4 w' b v0 v1 v2 v3 :=
  ⟨hg.cell hne.1 hne.2 h.1, hg.cell hne.1 hne.2 h.2.1, hg.cell hne.1 hne.2 h.2.2.1, hg.cell hne.1 hne.2 h.2.2.2⟩

/-- what marking a thing leaves -/
def MarkedF (w : World) (a c : Option Addr) (n m : Nat) (k : Int) (w' : World) : Prop :=
  PtsAt w' a (marks k n) ∧ TagsAt w' c (marksT (k + 2 * (n : Int)) m) ∧ Grown2 w w' a c

end Go.Proofs.Ytdfadpejddhbkaa
