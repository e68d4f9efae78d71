/- Proved here: the size of a list of things, and that it is copied thing by thing into memory of its own; lists of at most 1,048,576 things, points and tags. -/
import Derived.Test.YtelimcknhaflfaaWFeatTo
import Derived.Test.YtelimcknhaflfaaWBox4
namespace Go.Proofs.Ytelimcknhaflfaa
set_option linter.unusedVariables false
open Go.ChangeShapes Go.WideShapes Go.ChangeAt Go.RowKit

/-- a thing: its name, its kind, its points and its tags -/
abbrev Ft := ByteArray × Int × List (Int × Int) × List Tg

/-- the parts of a thing of a list -/
def fg (fs : List Ft) (i : Nat) : Ft := fs.getD i (.empty, 0, [], [])
def fid (fs : List Ft) (i : Nat) : ByteArray := (fg fs i).1
def fkd (fs : List Ft) (i : Nat) : Int := (fg fs i).2.1
def fps (fs : List Ft) (i : Nat) : List (Int × Int) := (fg fs i).2.2.1
def fts (fs : List Ft) (i : Nat) : List Tg := (fg fs i).2.2.2

theorem fg_eq (fs : List Ft) (i : Nat) : fg fs i = (fid fs i, fkd fs i, fps fs i, fts fs i) := rfl
theorem fg_get {fs : List Ft} {i : Nat} (h : i < fs.length) : fg fs i = fs[i] := by simp [fg, h]

/-- no part of a thing is longer than that -/
def FtLen (f : Ft) (m : Int) : Prop := (f.1.size : Int) ≤ m ∧ (f.2.2.1.length : Int) ≤ m ∧ (f.2.2.2.length : Int) ≤ m ∧ TagsLen f.2.2.2 m

/-- a slice that reads as things -/
def FeatsAt (w : World) (a : Option Addr) (fs : List Ft) : Prop :=
  ∀ i, i < fs.length → ∃ b off pa pc ta tc, a = some ⟨b, off, none⟩ ∧ b < w.heap.size ∧
    w.cell? ⟨b, off + i * 4, none⟩ = some (.string (fid fs i)) ∧ w.cell? ⟨b, off + i * 4 + 1, none⟩ = some (.int .i64 (fkd fs i)) ∧
    w.cell? ⟨b, off + i * 4 + 2, none⟩ = some (.slice pa (fps fs i).length pc) ∧ w.cell? ⟨b, off + i * 4 + 3, none⟩ = some (.slice ta (fts fs i).length tc) ∧
    PtsAt w pa (fps fs i) ∧ TagsAt w ta (fts fs i)

theorem FeatsAt.nil (w : World) (a : Option Addr) : FeatsAt w a [] := fun _ h => absurd h (Nat.not_lt_zero _)

theorem FeatsAt.below {w w' : World} {a : Option Addr} {fs : List Ft} (h : FeatsAt w a fs) (hb : Below w.heap.size w w') : FeatsAt w' a fs := by
  intro i hi
  obtain ⟨b, off, pa, pc, ta, tc, rfl, hlt, h1, h2, h3, h4, h5, h6⟩ := h i hi
  exact ⟨b, off, pa, pc, ta, tc, rfl, Nat.lt_of_lt_of_le hlt hb.size, by rw [hb.cell (p := ⟨b, _, none⟩) hlt]; exact h1, by rw [hb.cell (p := ⟨b, _, none⟩) hlt]; exact h2, by rw [hb.cell (p := ⟨b, _, none⟩) hlt]; exact h3, by rw [hb.cell (p := ⟨b, _, none⟩) hlt]; exact h4, h5.below hb, h6.below hb⟩

/-- no part is longer than that -/
def FeatsLen (fs : List Ft) (m : Int) : Prop := ∀ j, j < fs.length → ((fid fs j).size : Int) ≤ m ∧ ((fps fs j).length : Int) ≤ m ∧ ((fts fs j).length : Int) ≤ m ∧ TagsLen (fts fs j) m

theorem FeatsLen.mono {fs : List Ft} {l m : Int} (h : FeatsLen fs l) (hm : l ≤ m) : FeatsLen fs m := fun j hj =>
  ⟨Int.le_trans (h j hj).1 hm, Int.le_trans (h j hj).2.1 hm, Int.le_trans (h j hj).2.2.1 hm, (h j hj).2.2.2.mono hm⟩

def SzFeats (fs : List Ft) (left : Int) (r : Int) : Prop := r = -1 ∨ (0 ≤ r ∧ r ≤ left ∧ (fs.length : Int) ≤ left ∧ FeatsLen fs left)

/-- a list of things of the laws that came in, none of its parts longer than can be -/
structure FeatsIn (w : World) (a : Option Addr) (fs : List Ft) : Prop where
  reads : FeatsAt w a fs
  len : fs.length ≤ 9223372036854775807
  lens : FeatsLen fs 9223372036854775807

theorem FeatsIn.below {w w' : World} {a : Option Addr} {fs : List Ft} (h : FeatsIn w a fs) (hb : Below w.heap.size w w') : FeatsIn w' a fs := ⟨h.reads.below hb, h.len, h.lens⟩

theorem infoFeat : (Try.prog.info? 29).map (fun i => (i.zero, i.size, i.bytes)) = some (some (.agg #[.string .empty, .int .i64 0, .slice none 0 0, .slice none 0 0]), 4, 72) := by kernel_rfl

/-- a things' cell by its place; the rows of points and tags lie where 'ad' says -/
def featCell (fs : List Ft) (ad : Nat → Nat × Nat) (j : Nat) : Value :=
  if j % 4 = 0 then .string (fid fs (j / 4)) else if j % 4 = 1 then .int .i64 (fkd fs (j / 4))
  else if j % 4 = 2 then .slice (some ⟨(ad (j / 4)).1, 0, none⟩) (fps fs (j / 4)).length (fps fs (j / 4)).length
  else .slice (some ⟨(ad (j / 4)).2, 0, none⟩) (fts fs (j / 4)).length (fts fs (j / 4)).length

def zeroF (j : Nat) : Value := if j % 4 = 0 then .string .empty else if j % 4 = 1 then .int .i64 0 else .slice none 0 0

/-- how far a row is filled -/
def filledF (fs : List Ft) (ad : Nat → Nat × Nat) (k j : Nat) : Value := if j < k * 4 then featCell fs ad j else zeroF j

/-- the places, with one more -/
def adSet (ad : Nat → Nat × Nat) (k : Nat) (x : Nat × Nat) : Nat → Nat × Nat := fun i => if i = k then x else ad i

theorem adSet_at (ad : Nat → Nat × Nat) (k : Nat) (x : Nat × Nat) : adSet ad k x k = x := if_pos rfl
theorem adSet_lt {ad : Nat → Nat × Nat} {k i : Nat} {x : Nat × Nat} (h : i < k) : adSet ad k x i = ad i := if_neg (by omega)

theorem filledF_step (fs : List Ft) (ad : Nat → Nat × Nat) (k j p t : Nat) :
    (if j = k * 4 + 3 then .slice (some ⟨t, 0, none⟩) (fts fs k).length (fts fs k).length else if j = k * 4 + 2 then .slice (some ⟨p, 0, none⟩) (fps fs k).length (fps fs k).length else if j = k * 4 + 1 then .int .i64 (fkd fs k) else if j = k * 4 then .string (fid fs k) else filledF fs ad k j) = filledF fs (adSet ad k (p, t)) (k + 1) j := by
  unfold filledF featCell
  by_cases h1 : j = k * 4 + 3
  · subst h1
    rw [if_pos rfl, if_pos (by omega), if_neg (by omega), if_neg (by omega), if_neg (by omega), show (k * 4 + 3) / 4 = k by omega, adSet_at]
  · rw [if_neg h1]
    by_cases h2 : j = k * 4 + 2
    · subst h2
      rw [if_pos rfl, if_pos (by omega), if_neg (by omega), if_neg (by omega), if_pos (by omega), show (k * 4 + 2) / 4 = k by omega, adSet_at]
    · rw [if_neg h2]
      by_cases h3 : j = k * 4 + 1
      · subst h3
        rw [if_pos rfl, if_pos (by omega), if_neg (by omega), if_pos (by omega), show (k * 4 + 1) / 4 = k by omega]
      · rw [if_neg h3]
        by_cases h4 : j = k * 4
        · subst h4
          rw [if_pos rfl, if_pos (by omega), if_pos (by omega), show (k * 4) / 4 = k by omega]
        · rw [if_neg h4]
          by_cases h5 : j < k * 4
          · have h6 : j < (k + 1) * 4 := by omega
            rw [if_pos h5, if_pos h6, adSet_lt (by omega)]
          · rw [if_neg h5, if_neg (by omega)]

theorem made_rowF (w : World) (n : Nat) (t : TypeId) : (w.alloc (.cells (madeCells #[.string .empty, .int .i64 0, .slice none 0 0, .slice none 0 0] (n * 4)) t)).rowIs w.heap.size t (n * 4) zeroF := by
  have hs : (madeCells #[Value.string .empty, .int .i64 0, .slice none 0 0, .slice none 0 0] (n * 4)).size = n * 4 := by simp [madeCells]
  have := World.rowIs_alloc w (madeCells #[.string .empty, .int .i64 0, .slice none 0 0, .slice none 0 0] (n * 4)) t zeroF (by
    intro i hi
    rw [hs] at hi
    simp only [madeCells, Array.getElem?_map, Array.getElem?_range, if_pos hi, Option.map_some]
    have : i % 4 = 0 ∨ i % 4 = 1 ∨ i % 4 = 2 ∨ i % 4 = 3 := by omega
    rcases this with h | h | h | h <;> simp [h, zeroF])
  rwa [hs] at this

/-- the rows of the points and tags of the first things -/
def Parts (w : World) (base : Nat) (fs : List Ft) (ad : Nat → Nat × Nat) (k : Nat) : Prop :=
  ∀ i, i < k → w.rowIs (ad i).1 74 ((fps fs i).length * 2) (ptCell (fps fs i)) ∧ w.rowIs (ad i).2 81 ((fts fs i).length * 2) (tagCell (fts fs i)) ∧ base < (ad i).1 ∧ base < (ad i).2 ∧ (ad i).1 ≠ (ad i).2 ∧ ∀ j, j < i → (ad j).1 < (ad i).1 ∧ (ad j).1 < (ad i).2 ∧ (ad j).2 < (ad i).1 ∧ (ad j).2 < (ad i).2

theorem Parts.below {w w' : World} {base : Nat} {fs : List Ft} {ad : Nat → Nat × Nat} {k : Nat} (h : Parts w base fs ad k) (hb : Below w.heap.size w w') : Parts w' base fs ad k := fun i hi =>
  ⟨(h i hi).1.of_block (hb.block _ (h i hi).1.lt), (h i hi).2.1.of_block (hb.block _ (h i hi).2.1.lt), (h i hi).2.2⟩

theorem Parts.setBase {w : World} {base : Nat} {fs : List Ft} {ad : Nat → Nat × Nat} {k : Nat} (h : Parts w base fs ad k) (o : Nat) (v : Value) : Parts (w.setCell ⟨base, o, none⟩ v) base fs ad k := fun i hi =>
  ⟨(h i hi).1.setOther (by have := (h i hi).2.2.1; show _ ≠ _; simp; omega) _, (h i hi).2.1.setOther (by have := (h i hi).2.2.2.1; show _ ≠ _; simp; omega) _, (h i hi).2.2⟩

/-- what 'toFeatS' answers: a row of its own, with the rows of the parts -/
def NewFeats (w : World) (fs : List Ft) (e : Ending) (w' : World) : Prop :=
  ∃ b ad, e = .returned (.slice (some ⟨b, 0, none⟩) fs.length fs.length) ∧ w'.rowIs b 29 (fs.length * 4) (featCell fs ad) ∧ Parts w' b fs ad fs.length ∧ w.heap.size ≤ b ∧ Below w.heap.size w w'

theorem FeatsAt.of_row {fs : List Ft} {ad : Nat → Nat × Nat} {w : World} {b : Nat} {t : TypeId} (h : w.rowIs b t (fs.length * 4) (featCell fs ad)) (hp : Parts w b fs ad fs.length) : FeatsAt w (some ⟨b, 0, none⟩) fs := by
  intro i hi
  refine ⟨b, 0, some ⟨(ad i).1, 0, none⟩, (fps fs i).length, some ⟨(ad i).2, 0, none⟩, (fts fs i).length, rfl, h.lt, ?_, ?_, ?_, ?_, PtsAt.of_row (hp i hi).1, TagsAt.of_row (hp i hi).2.1⟩
  · have := h.cell (i := i * 4) (by omega)
    rw [Nat.zero_add, this]
    unfold featCell
    rw [if_pos (by omega), show i * 4 / 4 = i by omega]
  · have := h.cell (i := i * 4 + 1) (by omega)
    rw [Nat.zero_add, this]
    unfold featCell
    rw [if_neg (by omega), if_pos (by omega), show (i * 4 + 1) / 4 = i by omega]
  · have := h.cell (i := i * 4 + 2) (by omega)
    rw [Nat.zero_add, this]
    unfold featCell
    rw [if_neg (by omega), if_neg (by omega), if_pos (by omega), show (i * 4 + 2) / 4 = i by omega]
  · have := h.cell (i := i * 4 + 3) (by omega)
    rw [Nat.zero_add, this]
    unfold featCell
    rw [if_neg (by omega), if_neg (by omega), if_neg (by omega), show (i * 4 + 3) / 4 = i by omega]

end Go.Proofs.Ytelimcknhaflfaa
