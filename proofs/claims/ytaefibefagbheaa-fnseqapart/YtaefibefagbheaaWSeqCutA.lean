/- Proved here: a part of a row of points reads as that part of its points; no condition. -/
import Derived.Test.YtaefibefagbheaaWSeqRow
import Derived.Test.YtaefibefagbheaaWSeqLongS
import Derived.Deep.RegionHeld3
namespace Go.Proofs.Ytaefibefagbheaa
set_option linter.unusedVariables false
open Go.ChangeShapes Go.WideShapes Go.ChangeAt Go.RowKit

/-- where a part of a row lies -/
def cutA (a : Option Addr) (l c : Nat) : Option Addr := if c = l then a else a.map (·.add (l * 2))

theorem sizePt (u : World) : (sizeOf 32).run Try.prog u = .ok 2 u := by
  obtain ⟨i0, hi, hz0, hz1, hz2⟩ := info_parts infoPt
  simp [sizeOf, typeInfo, Sem.run_bind, hi, hz1]

theorem run_cutLo (u : World) (a : Option Addr) (n c l : Nat) (x : Int) (hx : x = (l : Int)) (hl : l ≤ n) :
    (Instr.slice 23 (.slice a n c) (some (.int .i64 x)) none none).run Try.prog u = .ok (.slice (cutA a l c) (n - l) (c - l)) u := by
  subst hx
  have h2 := sizePt u
  have h3 : (0 : Int) ≤ (l : Int) ∧ (l : Int) ≤ (n : Int) := by omega
  simp [Instr.slice, Instr.sliceBounds, Instr.sliceBound, Sem.run_bind, run_underlying Try.underlying23, h2, h3, Result.andThen, asIntOf, cutA, hl]

theorem run_cutHi (u : World) (a : Option Addr) (n c h : Nat) (y : Int) (hy : y = (h : Int)) (hh : h ≤ c) :
    (Instr.slice 23 (.slice a n c) none (some (.int .i64 y)) none).run Try.prog u = .ok (.slice (cutA a 0 c) h c) u := by
  subst hy
  have h2 := sizePt u
  have h3 : (0 : Int) ≤ (h : Int) ∧ (h : Int) ≤ (c : Int) := by omega
  simp [Instr.slice, Instr.sliceBounds, Instr.sliceBound, Sem.run_bind, run_underlying Try.underlying23, h2, h3, Result.andThen, asIntOf, cutA, hh]

theorem run_cutLH (u : World) (a : Option Addr) (n c l h : Nat) (x y : Int) (hx : x = (l : Int)) (hy : y = (h : Int)) (hl : l ≤ h) (hh : h ≤ c) :
    (Instr.slice 23 (.slice a n c) (some (.int .i64 x)) (some (.int .i64 y)) none).run Try.prog u = .ok (.slice (cutA a l c) (h - l) (c - l)) u := by
  subst hx hy
  have h2 := sizePt u
  have h3 : (0 : Int) ≤ (l : Int) ∧ (l : Int) ≤ (h : Int) := by omega
  have h4 : (0 : Int) ≤ (h : Int) ∧ (h : Int) ≤ (c : Int) := by omega
  simp [Instr.slice, Instr.sliceBounds, Instr.sliceBound, Sem.run_bind, run_underlying Try.underlying23, h2, h3, h4, Result.andThen, asIntOf, cutA, hl, hh]

theorem cutA_zero (a : Option Addr) (c : Nat) (h : ∀ x, a = some x → ∃ b off, x = ⟨b, off, none⟩) : cutA a 0 c = a := by
  unfold cutA
  split
  · rfl
  · cases a with
    | none => rfl
    | some x =>
      obtain ⟨b, off, rfl⟩ := h x rfl
      rfl

theorem px_drop (ps : List (Int × Int)) (l i : Nat) : px (ps.drop l) i = px ps (l + i) := by simp [px, List.getElem?_drop]
theorem py_drop (ps : List (Int × Int)) (l i : Nat) : py (ps.drop l) i = py ps (l + i) := by simp [py, List.getElem?_drop]
theorem px_take (ps : List (Int × Int)) (h i : Nat) (hi : i < h) : px (ps.take h) i = px ps i := by simp [px, hi]
theorem py_take (ps : List (Int × Int)) (h i : Nat) (hi : i < h) : py (ps.take h) i = py ps i := by simp [py, hi]

theorem PtsAt.cutLo {w : World} {a : Option Addr} {ps : List (Int × Int)} {c : Nat} (h : PtsAt w a ps) (hc : ps.length ≤ c) (l : Nat) : PtsAt w (cutA a l c) (ps.drop l) := by
  intro i hi
  rw [List.length_drop] at hi
  obtain ⟨b, off, rfl, hb, h1, h2⟩ := h (l + i) (by omega)
  unfold cutA
  rw [if_neg (by omega), px_drop, py_drop]
  refine ⟨b, off + l * 2, by simp [Addr.add_mid], hb, ?_, ?_⟩
  · rw [show off + l * 2 + i * 2 = off + (l + i) * 2 by omega]; exact h1
  · rw [show off + l * 2 + i * 2 = off + (l + i) * 2 by omega]; exact h2

theorem PtsAt.cutHi {w : World} {a : Option Addr} {ps : List (Int × Int)} (h : PtsAt w a ps) (k : Nat) : PtsAt w a (ps.take k) := by
  intro i hi
  rw [List.length_take] at hi
  obtain ⟨b, off, rfl, hb, h1, h2⟩ := h i (by omega)
  rw [px_take ps k i (by omega), py_take ps k i (by omega)]
  exact ⟨b, off, rfl, hb, h1, h2⟩

theorem PtsAt.cutLH {w : World} {a : Option Addr} {ps : List (Int × Int)} {c : Nat} (h : PtsAt w a ps) (hc : ps.length ≤ c) (l k : Nat) : PtsAt w (cutA a l c) (cut ps l k) := by
  unfold cut
  exact (h.cutHi k).cutLo (by rw [List.length_take]; omega) l

/-- how many can be one from two places on: of parts of rows -/
theorem l5Long_cut (pa pb : Option Addr) (ca cb : Nat) (a b : List (Int × Int)) (x y : Nat) (w : World) (hp : PtsAt w pa a) (hq : PtsAt w pb b) (hl : a.length ≤ 12) (hl' : b.length ≤ 12) (hca : a.length ≤ ca) (hcb : b.length ≤ cb) :
    Calls Try.prog 37 #[.slice (cutA pa x ca) (a.length - x) (ca - x), .slice (cutA pb y cb) (b.length - y) (cb - y)] w fun e w' => e = .returned (.int .i64 (lcs (a.drop x) (b.drop y) : Nat)) ∧ Below w.heap.size w w' := by
  have h := l5Long_any (cutA pa x ca) (cutA pb y cb) (ca - x) (cb - y) (a.drop x) (b.drop y) w (hp.cutLo hca x) (hq.cutLo hcb y) (by rw [List.length_drop]; omega) (by rw [List.length_drop]; omega)
  rwa [List.length_drop, List.length_drop] at h
end Go.Proofs.Ytaefibefagbheaa
