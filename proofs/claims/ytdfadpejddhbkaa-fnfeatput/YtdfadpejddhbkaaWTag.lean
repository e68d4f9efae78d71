/- Proved here: contracts of the small functions over tags, and that a list of tags is copied tag by tag into a row of its own; no condition but the bound of 1,048,576 tags. -/
import Derived.Test.YtdfadpejddhbkaaWBase
namespace Go.Proofs.Ytdfadpejddhbkaa
set_option linter.unusedVariables false
open Go.ChangeShapes Go.WideShapes Go.ChangeAt Go.RowKit

/-- a tag: its key and its value -/
abbrev Tg := ByteArray × ByteArray

theorem bytes_beq (a b : ByteArray) : (a.toList == b.toList) = decide (a = b) := by
  rw [ByteArray.toList_eq, ByteArray.toList_eq]
  by_cases h : a = b
  · subst h
    simp
  · have h1 : a.data.toList ≠ b.data.toList := fun e => h (by
      cases a; cases b; simp at e; simp [e])
    rw [decide_eq_false h]
    simpa using h1

theorem toList_inj (a b : ByteArray) : a.toList = b.toList ↔ a = b := by
  have := bytes_beq a b
  rw [Bool.eq_iff_iff] at this
  simpa using this

/-- two tags are one -/
def tgEq (p q : Tg) : Bool := decide (p = q)

theorem run_tgEql (x y a b : ByteArray) (w : World) : (binOp .eql 52 (.agg #[.string x, .string y]) (.agg #[.string a, .string b])).run Try.prog w = .ok (.bool (tgEq (x, y) (a, b))) w := by
  have u3 := Try.underlying9
  have a3 := Try.isAgg9
  have z3 := Try.sizeOf9
  have hS : Try.prog.underlying 52 = some (.struct (Try.prog.fieldsOf 52)) := by kernel_rfl
  have hp : Try.prog.stoodInHeld 52 = false := by kernel_rfl
  rw [run_eql_struct, show (10000 : Nat) = 9999 + 1 from rfl, run_equalIn_agg w 9999 52 _ _ hS hp]
  simp only [Program.fieldsOf, Try.underlying52]
  go_simp
  have i1 := toList_inj x a
  have i2 := toList_inj y b
  by_cases h1 : x = a <;> by_cases h2 : y = b <;> simp_all [tgEq]

theorem run_tgNeq (x y a b : ByteArray) (w : World) : (binOp .neq 52 (.agg #[.string x, .string y]) (.agg #[.string a, .string b])).run Try.prog w = .ok (.bool (!tgEq (x, y) (a, b))) w := by
  have u3 := Try.underlying9
  have a3 := Try.isAgg9
  have z3 := Try.sizeOf9
  have hS : Try.prog.underlying 52 = some (.struct (Try.prog.fieldsOf 52)) := by kernel_rfl
  have hp : Try.prog.stoodInHeld 52 = false := by kernel_rfl
  rw [run_neq_struct, show (10000 : Nat) = 9999 + 1 from rfl, run_equalIn_agg w 9999 52 _ _ hS hp]
  simp only [Program.fieldsOf, Try.underlying52]
  go_simp
  have i1 := toList_inj x a
  have i2 := toList_inj y b
  by_cases h1 : x = a <;> by_cases h2 : y = b <;> simp_all [tgEq]

/-- the parts of a tag -/
def tk (ts : List Tg) (i : Nat) : ByteArray := (ts.getD i (.empty, .empty)).1
def tv (ts : List Tg) (i : Nat) : ByteArray := (ts.getD i (.empty, .empty)).2

/-- a slice that reads as tags -/
def TagsAt (w : World) (a : Option Addr) (ts : List Tg) : Prop :=
  ∀ i, i < ts.length → ∃ b off, a = some ⟨b, off, none⟩ ∧ b < w.heap.size ∧ w.cell? ⟨b, off + i * 2, none⟩ = some (.string (tk ts i)) ∧ w.cell? ⟨b, off + i * 2 + 1, none⟩ = some (.string (tv ts i))

theorem TagsAt.nil (w : World) (a : Option Addr) : TagsAt w a [] := fun _ h => absurd h (Nat.not_lt_zero _)

theorem TagsAt.below {w w' : World} {a : Option Addr} {ts : List Tg} (h : TagsAt w a ts) (hb : Below w.heap.size w w') : TagsAt w' a ts := by
  intro i hi
  obtain ⟨b, off, rfl, hlt, h1, h2⟩ := h i hi
  exact ⟨b, off, rfl, Nat.lt_of_lt_of_le hlt hb.size, by rw [hb.cell (p := ⟨b, _, none⟩) hlt]; exact h1, by rw [hb.cell (p := ⟨b, _, none⟩) hlt]; exact h2⟩

theorem cellsTag : Try.prog.cellsOf 52 = 2 := by kernel_rfl
theorem infoTag : (Try.prog.info? 52).map (fun i => (i.zero, i.size, i.bytes)) = some (some (.agg #[.string .empty, .string .empty]), 2, 32) := by kernel_rfl

/-- a tags' cell by its place -/
def tagCell (ts : List Tg) (j : Nat) : Value := if j % 2 = 0 then .string (tk ts (j / 2)) else .string (tv ts (j / 2))

/-- how far a row is filledT -/
def filledT (ts : List Tg) (k j : Nat) : Value := if j < k * 2 then tagCell ts j else .string .empty

theorem filledT_step (ts : List Tg) (k j : Nat) :
    (if j = k * 2 + 1 then .string (tv ts k) else if j = k * 2 then .string (tk ts k) else filledT ts k j) = filledT ts (k + 1) j := by
  unfold filledT tagCell
  by_cases h1 : j = k * 2 + 1
  · subst h1
    rw [if_pos rfl, if_pos (by omega), if_neg (by omega), show (k * 2 + 1) / 2 = k by omega]
  · rw [if_neg h1]
    by_cases h2 : j = k * 2
    · subst h2
      rw [if_pos rfl, if_pos (by omega), if_pos (by omega), show (k * 2) / 2 = k by omega]
    · rw [if_neg h2]
      by_cases h3 : j < k * 2
      · have h4 : j < (k + 1) * 2 := by omega
        rw [if_pos h3, if_pos h4]
      · rw [if_neg h3, if_neg (by omega)]

theorem made_rowT (w : World) (n : Nat) (t : TypeId) : (w.alloc (.cells (madeCells #[.string .empty, .string .empty] (n * 2)) t)).rowIs w.heap.size t (n * 2) (fun _ => .string .empty) := by
  have hs : (madeCells #[Value.string .empty, .string .empty] (n * 2)).size = n * 2 := by simp [madeCells]
  have := World.rowIs_alloc w (madeCells #[.string .empty, .string .empty] (n * 2)) t (fun _ => .string .empty) (by
    intro i hi
    rw [hs] at hi
    simp only [madeCells, Array.getElem?_map, Array.getElem?_range, if_pos hi, Option.map_some]
    have : i % 2 = 0 ∨ i % 2 = 1 := by omega
    rcases this with h | h <;> simp [h])
  rwa [hs] at this

/-- a row of its own that holds tags -/
theorem filledT_own (ts : List Tg) (w : World) (b : Nat) (t : TypeId) (h : w.rowIs b t (ts.length * 2) (filledT ts ts.length)) : w.rowIs b t (ts.length * 2) (tagCell ts) :=
  h.congr fun j hj => by unfold filledT; rw [if_pos hj]

theorem TagsAt.of_row {ts : List Tg} {w : World} {b : Nat} {t : TypeId} (h : w.rowIs b t (ts.length * 2) (tagCell ts)) : TagsAt w (some ⟨b, 0, none⟩) ts := by
  intro i hi
  refine ⟨b, 0, rfl, h.lt, ?_, ?_⟩
  · have := h.cell (i := i * 2) (by omega)
    rw [Nat.zero_add, this]
    unfold tagCell
    rw [if_pos (by omega), show i * 2 / 2 = i by omega]
  · have := h.cell (i := i * 2 + 1) (by omega)
    rw [Nat.zero_add, this]
    unfold tagCell
    rw [if_neg (by omega), show (i * 2 + 1) / 2 = i by omega]

/-- what 'toTagS' answers: a row of its own -/
def NewTags (w : World) (ts : List Tg) (e : Ending) (w' : World) : Prop :=
  ∃ b, e = .returned (.slice (some ⟨b, 0, none⟩) ts.length ts.length) ∧ w'.rowIs b 52 (ts.length * 2) (tagCell ts) ∧ w.heap.size ≤ b ∧ Below w.heap.size w w'

end Go.Proofs.Ytdfadpejddhbkaa
