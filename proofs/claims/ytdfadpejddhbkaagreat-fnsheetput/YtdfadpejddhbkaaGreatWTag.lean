/- Proved here: contracts of the small functions over tags, and that a list of tags is copied tag by tag into a row of its own; no condition but the bound of 1,048,576 tags. -/
import Derived.Test.YtdfadpejddhbkaaGreatWBase
namespace Go.Proofs.YtdfadpejddhbkaaGreat
set_option linter.unusedVariables false
open Go.ChangeShapes Go.WideShapes Go.ChangeAt Go.RowKit

/-- a tag: its key and its value -/
abbrev Tg := ByteArray × ByteArray

theorem bytes_beq (a b : ByteArray) : (a.toList == b.toList) = decide (a = b) := by
  rw [ByteArray.toList_eq, ByteArray.toList_eq]
  by_cases h : a = b
  · subst h
    simp
  · have h1 : a.data.toList ≠ b.data.toList := fun e => h (by
      cases a; cases b; simp at e; simp [e])
    rw [decide_eq_false h]
    simpa using h1

theorem toList_inj (a b : ByteArray) : a.toList = b.toList ↔ a = b := by
  have := bytes_beq a b
  rw [Bool.eq_iff_iff] at this
  simpa using this

/-- two tags are one -/
def tgEq (p q : Tg) : Bool := decide (p = q)

set_option maxHeartbeats 400000 in
theorem toTag_any (x y : ByteArray) (w : World) :
    Calls Tryz.prog 176 #[.agg #[.string x, .string y]] w fun e w' => e = .returned (.agg #[.string x, .string y]) ∧ Below w.heap.size w w' := by
  go_enter Tryz.func176, Tryz.ntmps176
  go_wp2
  refine bodyPost_ret (v := .agg #[.string x, .string y]) (by simp [results, Tryz.results176, go_sem]) rfl ⟨rfl, ?_⟩
  exact (((Below.refl _ _).alloc (Nat.le_refl _) _).alloc (by simp) _).alloc (by simp; omega) _

set_option maxHeartbeats 400000 in
theorem eqTag_any (x y a b : ByteArray) (w : World) :
    Calls Tryz.prog 182 #[.agg #[.string x, .string y], .agg #[.string a, .string b]] w fun e w' => e = .returned (.bool (tgEq (x, y) (a, b))) ∧ Below w.heap.size w w' := by
  have e1 := bytes_beq x a
  have e2 := bytes_beq y b
  by_cases h1 : x = a
  · rw [decide_eq_true h1] at e1
    by_cases h2 : y = b
    · rw [decide_eq_true h2] at e2
      have HS : Hid (tgEq (x, y) (a, b) = true) := by simp [Hid, tgEq, h1, h2]
      clear h1 h2
      go_enter Tryz.func182, Tryz.ntmps182
      go_wp2
      go_ret
      exact ⟨by rw [HS.out]; rfl, ((Below.refl _ _).alloc (Nat.le_refl _) _).alloc (by simp) _⟩
    · rw [decide_eq_false h2] at e2
      have HS : Hid (tgEq (x, y) (a, b) = false) := by simp [Hid, tgEq, h2]
      clear h1 h2
      go_enter Tryz.func182, Tryz.ntmps182
      go_wp2
      go_ret
      exact ⟨by rw [HS.out]; rfl, ((Below.refl _ _).alloc (Nat.le_refl _) _).alloc (by simp) _⟩
  · rw [decide_eq_false h1] at e1
    have HS : Hid (tgEq (x, y) (a, b) = false) := by simp [Hid, tgEq, h1]
    clear h1 e2
    go_enter Tryz.func182, Tryz.ntmps182
    go_wp2
    go_ret
    exact ⟨by rw [HS.out]; rfl, ((Below.refl _ _).alloc (Nat.le_refl _) _).alloc (by simp) _⟩

theorem run_tgEql (x y a b : ByteArray) (w : World) : (binOp .eql 92 (.agg #[.string x, .string y]) (.agg #[.string a, .string b])).run Tryz.prog w = .ok (.bool (tgEq (x, y) (a, b))) w := by
  have u3 := Tryz.underlying9
  have a3 := Tryz.isAgg9
  have z3 := Tryz.sizeOf9
  have hS : Tryz.prog.underlying 92 = some (.struct (Tryz.prog.fieldsOf 92)) := by kernel_rfl
  have hp : Tryz.prog.stoodInHeld 92 = false := by kernel_rfl
  rw [run_eql_struct, show (10000 : Nat) = 9999 + 1 from rfl, run_equalIn_agg w 9999 92 _ _ hS hp]
  simp only [Program.fieldsOf, Tryz.underlying92]
  go_simp
  have i1 := toList_inj x a
  have i2 := toList_inj y b
  by_cases h1 : x = a <;> by_cases h2 : y = b <;> simp_all [tgEq]

theorem run_tgNeq (x y a b : ByteArray) (w : World) : (binOp .neq 92 (.agg #[.string x, .string y]) (.agg #[.string a, .string b])).run Tryz.prog w = .ok (.bool (!tgEq (x, y) (a, b))) w := by
  have u3 := Tryz.underlying9
  have a3 := Tryz.isAgg9
  have z3 := Tryz.sizeOf9
  have hS : Tryz.prog.underlying 92 = some (.struct (Tryz.prog.fieldsOf 92)) := by kernel_rfl
  have hp : Tryz.prog.stoodInHeld 92 = false := by kernel_rfl
  rw [run_neq_struct, show (10000 : Nat) = 9999 + 1 from rfl, run_equalIn_agg w 9999 92 _ _ hS hp]
  simp only [Program.fieldsOf, Tryz.underlying92]
  go_simp
  have i1 := toList_inj x a
  have i2 := toList_inj y b
  by_cases h1 : x = a <;> by_cases h2 : y = b <;> simp_all [tgEq]

/-- the parts of a tag -/
def tk (ts : List Tg) (i : Nat) : ByteArray := (ts.getD i (.empty, .empty)).1
def tv (ts : List Tg) (i : Nat) : ByteArray := (ts.getD i (.empty, .empty)).2

/-- a slice that reads as tags -/
def TagsAt (w : World) (a : Option Addr) (ts : List Tg) : Prop :=
  ∀ i, i < ts.length → ∃ b off, a = some ⟨b, off, none⟩ ∧ b < w.heap.size ∧ w.cell? ⟨b, off + i * 2, none⟩ = some (.string (tk ts i)) ∧ w.cell? ⟨b, off + i * 2 + 1, none⟩ = some (.string (tv ts i))

theorem TagsAt.nil (w : World) (a : Option Addr) : TagsAt w a [] := fun _ h => absurd h (Nat.not_lt_zero _)

theorem TagsAt.below {w w' : World} {a : Option Addr} {ts : List Tg} (h : TagsAt w a ts) (hb : Below w.heap.size w w') : TagsAt w' a ts := by
  intro i hi
  obtain ⟨b, off, rfl, hlt, h1, h2⟩ := h i hi
  exact ⟨b, off, rfl, Nat.lt_of_lt_of_le hlt hb.size, by rw [hb.cell (p := ⟨b, _, none⟩) hlt]; exact h1, by rw [hb.cell (p := ⟨b, _, none⟩) hlt]; exact h2⟩

theorem cellsTag : Tryz.prog.cellsOf 92 = 2 := by kernel_rfl
theorem cellsLTag : Tryz.prog.cellsOf 198 = 2 := by kernel_rfl
theorem infoTag : (Tryz.prog.info? 92).map (fun i => (i.zero, i.size, i.bytes)) = some (some (.agg #[.string .empty, .string .empty]), 2, 32) := by kernel_rfl

/-- a tags' cell by its place -/
def tagCell (ts : List Tg) (j : Nat) : Value := if j % 2 = 0 then .string (tk ts (j / 2)) else .string (tv ts (j / 2))

/-- how far a row is filledT -/
def filledT (ts : List Tg) (k j : Nat) : Value := if j < k * 2 then tagCell ts j else .string .empty

theorem filledT_step (ts : List Tg) (k j : Nat) :
    (if j = k * 2 + 1 then .string (tv ts k) else if j = k * 2 then .string (tk ts k) else filledT ts k j) = filledT ts (k + 1) j := by
  unfold filledT tagCell
  by_cases h1 : j = k * 2 + 1
  · subst h1
    rw [if_pos rfl, if_pos (by omega), if_neg (by omega), show (k * 2 + 1) / 2 = k by omega]
  · rw [if_neg h1]
    by_cases h2 : j = k * 2
    · subst h2
      rw [if_pos rfl, if_pos (by omega), if_pos (by omega), show (k * 2) / 2 = k by omega]
    · rw [if_neg h2]
      by_cases h3 : j < k * 2
      · have h4 : j < (k + 1) * 2 := by omega
        rw [if_pos h3, if_pos h4]
      · rw [if_neg h3, if_neg (by omega)]

theorem made_rowT (w : World) (n : Nat) (t : TypeId) : (w.alloc (.cells (madeCells #[.string .empty, .string .empty] (n * 2)) t)).rowIs w.heap.size t (n * 2) (fun _ => .string .empty) := by
  have hs : (madeCells #[Value.string .empty, .string .empty] (n * 2)).size = n * 2 := by simp [madeCells]
  have := World.rowIs_alloc w (madeCells #[.string .empty, .string .empty] (n * 2)) t (fun _ => .string .empty) (by
    intro i hi
    rw [hs] at hi
    simp only [madeCells, Array.getElem?_map, Array.getElem?_range, if_pos hi, Option.map_some]
    have : i % 2 = 0 ∨ i % 2 = 1 := by omega
    rcases this with h | h <;> simp [h])
  rwa [hs] at this

/-- a row of its own that holds tags -/
theorem filledT_own (ts : List Tg) (w : World) (b : Nat) (t : TypeId) (h : w.rowIs b t (ts.length * 2) (filledT ts ts.length)) : w.rowIs b t (ts.length * 2) (tagCell ts) :=
  h.congr fun j hj => by unfold filledT; rw [if_pos hj]

theorem TagsAt.of_row {ts : List Tg} {w : World} {b : Nat} {t : TypeId} (h : w.rowIs b t (ts.length * 2) (tagCell ts)) : TagsAt w (some ⟨b, 0, none⟩) ts := by
  intro i hi
  refine ⟨b, 0, rfl, h.lt, ?_, ?_⟩
  · have := h.cell (i := i * 2) (by omega)
    rw [Nat.zero_add, this]
    unfold tagCell
    rw [if_pos (by omega), show i * 2 / 2 = i by omega]
  · have := h.cell (i := i * 2 + 1) (by omega)
    rw [Nat.zero_add, this]
    unfold tagCell
    rw [if_neg (by omega), show (i * 2 + 1) / 2 = i by omega]

/-- what 'toTagS' answers: a row of its own -/
def NewTags (w : World) (ts : List Tg) (e : Ending) (w' : World) : Prop :=
  ∃ b, e = .returned (.slice (some ⟨b, 0, none⟩) ts.length ts.length) ∧ w'.rowIs b 92 (ts.length * 2) (tagCell ts) ∧ w.heap.size ≤ b ∧ Below w.heap.size w w'

set_option maxHeartbeats 400000 in
theorem toTagS_any (a : Option Addr) (cap : Nat) (ts : List Tg) (w : World) (hp : TagsAt w a ts) (hlen : ts.length ≤ 1048576) :
    Calls Tryz.prog 143 #[.slice a ts.length cap] w (NewTags w ts) := by
  obtain ⟨i0, hi, hz0, hz1, hz2⟩ := info_parts infoTag
  have hmk : ∀ u : World, (Instr.makeSlice 31 (.int .i64 (ts.length : Int)) (.int .i64 (ts.length : Int))).run Tryz.prog u =
      .ok (.slice (some ⟨u.heap.size, 0, none⟩) ts.length ts.length) (u.alloc (.cells (madeCells #[.string .empty, .string .empty] (ts.length * 2)) 92)) := fun u => by
    have h := run_make (P := Tryz.prog) u 31 92 i0 (.agg #[.string .empty, .string .empty]) Tryz.underlying31 hi hz0 .i64 .i64 (ts.length : Int) (ts.length : Int) (by omega) (Int.le_refl _) (by rw [hz2]; omega) (by omega)
    simpa [hz1, Value.cells] using h
  have H0 := Lib.hid hp
  clear hp hz0 hz1 hz2 hi
  go_enter Tryz.func143, Tryz.ntmps143
  go_wp2
  clear hmk
  go_loopw [4] (fun i wr => ∃ k : Nat, k ≤ ts.length ∧ i = .int .i64 k ∧ wr.rowIs w.heap.size 92 (ts.length * 2) (filledT ts k) ∧ Below w.heap.size w wr) (fun i _ => ts.length - (intOf i).toNat)
  case atStart =>
    refine ⟨0, Nat.zero_le _, rfl, (made_rowT w ts.length _).congr fun i _ => ?_, (Below.refl _ _).alloc (Nat.le_refl _) _⟩
    unfold filledT
    rw [if_neg (by omega)]
  case round =>
    obtain ⟨k, hk, rfl, hrow, hbel⟩ := hrel
    by_cases hlt : k < ts.length
    · obtain ⟨b, off, rfl, hb, hc1, hc2⟩ := H0.out k hlt
      rw [← hbel.cell (p := ⟨b, _, none⟩) hb] at hc1 hc2
      have HR := Lib.hid hrow
      have HB := Lib.hid hbel
      clear hrow hbel
      have hsz := HB.out.size
      go_wp2_with fail
      refine (toTag_any _ _ _).mono ?_
      rintro e w1 ⟨rfl, hb1⟩
      have hrow1 : w1.rowIs w.heap.size 92 (ts.length * 2) (filledT ts k) := HR.out.of_block (hb1.block _ HR.out.lt)
      have hf1 := hrow1.frozen (k * 2)
      have hf2 := hrow1.frozen (k * 2 + 1)
      have hd1 := hrow1.cell (i := k * 2) (by omega)
      have hd2 := hrow1.cell (i := k * 2 + 1) (by omega)
      have HR1 := Lib.hid hrow1
      have HB1 := Lib.hid hb1
      clear hrow1 hb1
      go_wp2
      go_roundw
      case rel =>
        refine ⟨k + 1, by omega, by go_num, ((HR1.out.set (k * 2) _).set (k * 2 + 1) _).congr fun j _ => filledT_step ts k j, ?_⟩
        exact ((HB.out.trans (HB1.out.mono hsz)).setCell (Nat.le_refl _) _).setCell (Nat.le_refl _) _
      case measure => simp [intOf]; omega
    · have HR := Lib.hid hrow
      have HB := Lib.hid hbel
      clear hrow hbel
      go_wp2
      go_ret
      obtain rfl : k = ts.length := by omega
      exact ⟨w.heap.size, rfl, filledT_own ts _ _ _ HR.out, Nat.le_refl _, HB.out⟩
end Go.Proofs.YtdfadpejddhbkaaGreat
