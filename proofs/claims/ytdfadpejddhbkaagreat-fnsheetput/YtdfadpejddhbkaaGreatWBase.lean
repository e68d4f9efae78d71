/- Proved here: contracts of the small functions over points, and that a shape is copied point by point into a row of its own; no condition but the bound of 1,048,576 points. -/
import Derived.Test.YtdfadpejddhbkaaGreatRows
import Derived.WalkKit
import Derived.ProofKit
import Derived.OpenShut
import Derived.Below
import Derived.Lib.Hide
import Derived.Deep.QuietTactic
import Derived.Deep.OwnRows
import Derived.BigQuiet
import Derived.Laws.StructEq
import Derived.WalkSpells
import Derived.WalkLawsBesides
namespace Go.Proofs.YtdfadpejddhbkaaGreat
set_option linter.unusedVariables false
open Go.ChangeShapes Go.WideShapes Go.ChangeAt Go.RowKit

/-- what lies below is kept: the two rules that a walk takes -/
theorem bcell {W w1 : World} (hb : Below W.heap.size W w1) : (∀ b o, b < W.heap.size → w1.cell? ⟨b, o, none⟩ = W.cell? ⟨b, o, none⟩) ∧ (∀ b o, b < W.heap.size → w1.frozen? ⟨b, o, none⟩ = W.frozen? ⟨b, o, none⟩) :=
  ⟨fun b o h => hb.cell (p := ⟨b, o, none⟩) h, fun b o h => hb.frozen (p := ⟨b, o, none⟩) h⟩

theorem below_drewN {B : Nat} {a w : World} (h : Below B a w) (n : Nat) : Below B a (w.drewN n) := ⟨h.os, h.tape, h.output, h.size, h.block⟩

theorem quiet_add_same {P : Program} {f : FuncId} {args : Array Value} {w : World} {a n : Nat} {v : Value}
    (h : Calls P f args (w.drewN (a + n)) fun e w' => e = .returned v ∧ w' = w.drewN (a + n)) :
    Calls P f args (w.drewN (a + n)) fun e w'' => e = .returned v ∧ ∃ m, w'' = w.drewN (a + m) :=
  h.mono fun _ _ ⟨he, hm⟩ => ⟨he, n, hm⟩

/-- two points are one -/
def ptEq (p q : Int × Int) : Bool := decide (p = q)

set_option maxHeartbeats 400000 in
theorem toPt_any (x y : Int) (w : World) :
    Calls Tryz.prog 197 #[.agg #[.int .i64 x, .int .i64 y]] w fun e w' => e = .returned (.agg #[.int .i64 x, .int .i64 y]) ∧ Below w.heap.size w w' := by
  go_enter Tryz.func197, Tryz.ntmps197
  go_wp2
  refine bodyPost_ret (v := .agg #[.int .i64 x, .int .i64 y]) (by simp [results, Tryz.results197, go_sem]) rfl ⟨rfl, ?_⟩
  exact (((Below.refl _ _).alloc (Nat.le_refl _) _).alloc (by simp) _).alloc (by simp; omega) _

set_option maxHeartbeats 400000 in
theorem eqPt_any (x y a b : Int) (w : World) :
    Calls Tryz.prog 199 #[.agg #[.int .i64 x, .int .i64 y], .agg #[.int .i64 a, .int .i64 b]] w fun e w' => e = .returned (.bool (ptEq (x, y) (a, b))) ∧ Below w.heap.size w w' := by
  go_enter Tryz.func199, Tryz.ntmps199
  go_wp2
  all_goals go_ret
  all_goals refine ⟨?_, ((Below.refl _ _).alloc (Nat.le_refl _) _).alloc (by simp) _⟩
  all_goals simp_all [ptEq]

theorem run_ptEql (x y a b : Int) (w : World) : (binOp .eql 148 (.agg #[.int .i64 x, .int .i64 y]) (.agg #[.int .i64 a, .int .i64 b])).run Tryz.prog w = .ok (.bool (ptEq (x, y) (a, b))) w := by
  have u3 := Tryz.underlying3
  have a3 := Tryz.isAgg3
  have z3 := Tryz.sizeOf3
  have hS : Tryz.prog.underlying 148 = some (.struct (Tryz.prog.fieldsOf 148)) := by kernel_rfl
  have hp : Tryz.prog.stoodInHeld 148 = false := by kernel_rfl
  rw [run_eql_struct, show (10000 : Nat) = 9999 + 1 from rfl, run_equalIn_agg w 9999 148 _ _ hS hp]
  simp only [Program.fieldsOf, Tryz.underlying148]
  go_simp
  by_cases h1 : x = a <;> by_cases h2 : y = b <;> simp [h1, h2, ptEq]

theorem run_ptNeq (x y a b : Int) (w : World) : (binOp .neq 148 (.agg #[.int .i64 x, .int .i64 y]) (.agg #[.int .i64 a, .int .i64 b])).run Tryz.prog w = .ok (.bool (!ptEq (x, y) (a, b))) w := by
  have u3 := Tryz.underlying3
  have a3 := Tryz.isAgg3
  have z3 := Tryz.sizeOf3
  have hS : Tryz.prog.underlying 148 = some (.struct (Tryz.prog.fieldsOf 148)) := by kernel_rfl
  have hp : Tryz.prog.stoodInHeld 148 = false := by kernel_rfl
  rw [run_neq_struct, show (10000 : Nat) = 9999 + 1 from rfl, run_equalIn_agg w 9999 148 _ _ hS hp]
  simp only [Program.fieldsOf, Tryz.underlying148]
  go_simp
  by_cases h1 : x = a <;> by_cases h2 : y = b <;> simp [h1, h2, ptEq]

/-- the places of a point -/
def px (ps : List (Int × Int)) (i : Nat) : Int := (ps.getD i (0, 0)).1
def py (ps : List (Int × Int)) (i : Nat) : Int := (ps.getD i (0, 0)).2

/-- a slice that reads as points -/
def PtsAt (w : World) (a : Option Addr) (ps : List (Int × Int)) : Prop :=
  ∀ i, i < ps.length → ∃ b off, a = some ⟨b, off, none⟩ ∧ b < w.heap.size ∧ w.cell? ⟨b, off + i * 2, none⟩ = some (.int .i64 (px ps i)) ∧ w.cell? ⟨b, off + i * 2 + 1, none⟩ = some (.int .i64 (py ps i))

theorem PtsAt.nil (w : World) (a : Option Addr) : PtsAt w a [] := fun _ h => absurd h (Nat.not_lt_zero _)

theorem PtsAt.below {w w' : World} {a : Option Addr} {ps : List (Int × Int)} (h : PtsAt w a ps) (hb : Below w.heap.size w w') : PtsAt w' a ps := by
  intro i hi
  obtain ⟨b, off, rfl, hlt, h1, h2⟩ := h i hi
  exact ⟨b, off, rfl, Nat.lt_of_lt_of_le hlt hb.size, by rw [hb.cell (p := ⟨b, _, none⟩) hlt]; exact h1, by rw [hb.cell (p := ⟨b, _, none⟩) hlt]; exact h2⟩

theorem cellsPt : Tryz.prog.cellsOf 148 = 2 := by kernel_rfl
theorem cellsLPt : Tryz.prog.cellsOf 217 = 2 := by kernel_rfl
theorem infoPt : (Tryz.prog.info? 148).map (fun i => (i.zero, i.size, i.bytes)) = some (some (.agg #[.int .i64 0, .int .i64 0]), 2, 16) := by kernel_rfl

/-- a points' cell by its place -/
def ptCell (ps : List (Int × Int)) (j : Nat) : Value := if j % 2 = 0 then .int .i64 (px ps (j / 2)) else .int .i64 (py ps (j / 2))

/-- how far a row is filled -/
def filled (ps : List (Int × Int)) (k j : Nat) : Value := if j < k * 2 then ptCell ps j else .int .i64 0

theorem filled_step (ps : List (Int × Int)) (k j : Nat) :
    (if j = k * 2 + 1 then .int .i64 (py ps k) else if j = k * 2 then .int .i64 (px ps k) else filled ps k j) = filled ps (k + 1) j := by
  unfold filled ptCell
  by_cases h1 : j = k * 2 + 1
  · subst h1
    rw [if_pos rfl, if_pos (by omega), if_neg (by omega), show (k * 2 + 1) / 2 = k by omega]
  · rw [if_neg h1]
    by_cases h2 : j = k * 2
    · subst h2
      rw [if_pos rfl, if_pos (by omega), if_pos (by omega), show (k * 2) / 2 = k by omega]
    · rw [if_neg h2]
      by_cases h3 : j < k * 2
      · have h4 : j < (k + 1) * 2 := by omega
        rw [if_pos h3, if_pos h4]
      · rw [if_neg h3, if_neg (by omega)]

theorem made_row (w : World) (n : Nat) (t : TypeId) : (w.alloc (.cells (madeCells #[.int .i64 0, .int .i64 0] (n * 2)) t)).rowIs w.heap.size t (n * 2) (fun _ => .int .i64 0) := by
  have hs : (madeCells #[Value.int .i64 0, .int .i64 0] (n * 2)).size = n * 2 := by simp [madeCells]
  have := World.rowIs_alloc w (madeCells #[.int .i64 0, .int .i64 0] (n * 2)) t (fun _ => .int .i64 0) (by
    intro i hi
    rw [hs] at hi
    simp only [madeCells, Array.getElem?_map, Array.getElem?_range, if_pos hi, Option.map_some]
    have : i % 2 = 0 ∨ i % 2 = 1 := by omega
    rcases this with h | h <;> simp [h])
  rwa [hs] at this

/-- a row of its own that holds points -/
theorem filled_own (ps : List (Int × Int)) (w : World) (b : Nat) (t : TypeId) (h : w.rowIs b t (ps.length * 2) (filled ps ps.length)) : w.rowIs b t (ps.length * 2) (ptCell ps) :=
  h.congr fun j hj => by unfold filled; rw [if_pos hj]

theorem PtsAt.of_row {ps : List (Int × Int)} {w : World} {b : Nat} {t : TypeId} (h : w.rowIs b t (ps.length * 2) (ptCell ps)) : PtsAt w (some ⟨b, 0, none⟩) ps := by
  intro i hi
  refine ⟨b, 0, rfl, h.lt, ?_, ?_⟩
  · have := h.cell (i := i * 2) (by omega)
    rw [Nat.zero_add, this]
    unfold ptCell
    rw [if_pos (by omega), show i * 2 / 2 = i by omega]
  · have := h.cell (i := i * 2 + 1) (by omega)
    rw [Nat.zero_add, this]
    unfold ptCell
    rw [if_neg (by omega), show (i * 2 + 1) / 2 = i by omega]

/-- what 'toPtS' answers: a row of its own -/
def NewPts (w : World) (ps : List (Int × Int)) (e : Ending) (w' : World) : Prop :=
  ∃ b, e = .returned (.slice (some ⟨b, 0, none⟩) ps.length ps.length) ∧ w'.rowIs b 148 (ps.length * 2) (ptCell ps) ∧ w.heap.size ≤ b ∧ Below w.heap.size w w'

set_option maxHeartbeats 400000 in
theorem toPtS_any (a : Option Addr) (cap : Nat) (ps : List (Int × Int)) (w : World) (hp : PtsAt w a ps) (hlen : ps.length ≤ 1048576) :
    Calls Tryz.prog 175 #[.slice a ps.length cap] w (NewPts w ps) := by
  obtain ⟨i0, hi, hz0, hz1, hz2⟩ := info_parts infoPt
  have hmk : ∀ u : World, (Instr.makeSlice 28 (.int .i64 (ps.length : Int)) (.int .i64 (ps.length : Int))).run Tryz.prog u =
      .ok (.slice (some ⟨u.heap.size, 0, none⟩) ps.length ps.length) (u.alloc (.cells (madeCells #[.int .i64 0, .int .i64 0] (ps.length * 2)) 148)) := fun u => by
    have h := run_make (P := Tryz.prog) u 28 148 i0 (.agg #[.int .i64 0, .int .i64 0]) Tryz.underlying28 hi hz0 .i64 .i64 (ps.length : Int) (ps.length : Int) (by omega) (Int.le_refl _) (by rw [hz2]; omega) (by omega)
    simpa [hz1, Value.cells] using h
  have H0 := Lib.hid hp
  clear hp hz0 hz1 hz2 hi
  go_enter Tryz.func175, Tryz.ntmps175
  go_wp2
  clear hmk
  go_loopw [4] (fun i wr => ∃ k : Nat, k ≤ ps.length ∧ i = .int .i64 k ∧ wr.rowIs w.heap.size 148 (ps.length * 2) (filled ps k) ∧ Below w.heap.size w wr) (fun i _ => ps.length - (intOf i).toNat)
  case atStart =>
    refine ⟨0, Nat.zero_le _, rfl, (made_row w ps.length _).congr fun i _ => ?_, (Below.refl _ _).alloc (Nat.le_refl _) _⟩
    unfold filled
    rw [if_neg (by omega)]
  case round =>
    obtain ⟨k, hk, rfl, hrow, hbel⟩ := hrel
    by_cases hlt : k < ps.length
    · obtain ⟨b, off, rfl, hb, hc1, hc2⟩ := H0.out k hlt
      rw [← hbel.cell (p := ⟨b, _, none⟩) hb] at hc1 hc2
      have HR := Lib.hid hrow
      have HB := Lib.hid hbel
      clear hrow hbel
      have hsz := HB.out.size
      go_wp2_with fail
      refine (toPt_any _ _ _).mono ?_
      rintro e w1 ⟨rfl, hb1⟩
      have hrow1 : w1.rowIs w.heap.size 148 (ps.length * 2) (filled ps k) := HR.out.of_block (hb1.block _ HR.out.lt)
      have hf1 := hrow1.frozen (k * 2)
      have hf2 := hrow1.frozen (k * 2 + 1)
      have hd1 := hrow1.cell (i := k * 2) (by omega)
      have hd2 := hrow1.cell (i := k * 2 + 1) (by omega)
      have HR1 := Lib.hid hrow1
      have HB1 := Lib.hid hb1
      clear hrow1 hb1
      go_wp2
      go_roundw
      case rel =>
        refine ⟨k + 1, by omega, by go_num, ((HR1.out.set (k * 2) _).set (k * 2 + 1) _).congr fun j _ => filled_step ps k j, ?_⟩
        exact ((HB.out.trans (HB1.out.mono hsz)).setCell (Nat.le_refl _) _).setCell (Nat.le_refl _) _
      case measure => simp [intOf]; omega
    · have HR := Lib.hid hrow
      have HB := Lib.hid hbel
      clear hrow hbel
      go_wp2
      go_ret
      obtain rfl : k = ps.length := by omega
      exact ⟨w.heap.size, rfl, filled_own ps _ _ _ HR.out, Nat.le_refl _, HB.out⟩
end Go.Proofs.YtdfadpejddhbkaaGreat
