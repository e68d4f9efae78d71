/- Proved here: an argument that is a shape reads as a kind and a row of points; no condition. -/
import Derived.Test.YtdchfologicbeaaGreatWBase
import Derived.Deep.SlicePairs
import Derived.Lib.SmallJoins
import Derived.ShutString
import Derived.ChangeOld
namespace Go.Proofs.YtdchfologicbeaaGreat
set_option linter.unusedVariables false
open Go.ChangeShapes Go.WideShapes Go.ChangeAt Go.RowKit Go.Deep Go.Joins

theorem own : ownKnob Tryz.prog.godebug = none := by kernel_rfl
theorem laidOut : laidOutB Tryz.prog = true := by kernel_rfl
theorem cells_lshape : Tryz.prog.cellsOf 33 = 2 := by kernel_rfl
theorem cells_lpt : Tryz.prog.cellsOf 226 = 2 := by kernel_rfl
theorem cells_int : Tryz.prog.cellsOf 3 = 1 := by kernel_rfl

/-- a slice of the laws' points that came in -/
theorem open_pts {H : Type} {enc : TypeId × Value → H} {W : World} {base : Nat} {spare : Nat → Bool} {held : Bool} {fuel : Nat} {v : Value} {x : DataW H × List MemPlace}
    (h : DataW.trod enc Tryz.prog W base spare held fuel 31 [v] = some x) :
    ∃ (a : Option Addr) (cap : Nat) (ps : List (Int × Int)), v = .slice a ps.length cap ∧ PtsAt W a ps ∧ ps.length ≤ maxLen := by
  rcases open_slice_pairs Tryz.underlying31 Tryz.underlying226 cells_lpt rfl rfl cells_int cells_int h with ⟨hcs, _⟩ | ⟨a, len, cap, m, n, V0, V1, D0, D1, P0, P1, hcs, hb, hl, hm, hmm, hx, hi⟩
  · obtain rfl : v = .slice none 0 0 := by simpa using hcs
    exact ⟨none, 0, [], rfl, PtsAt.nil _ _, Nat.zero_le _⟩
  · obtain rfl : v = .slice (some a) len cap := by simpa using hcs
    have hlm : len ≤ m := by rw [hmm]; split <;> omega
    have each : ∀ i, i < len → ∃ q : Int × Int, W.cell? (a.add (i * 2)) = some (.int .i64 q.1) ∧ W.cell? (a.add (i * 2 + 1)) = some (.int .i64 q.2) := by
      intro i hil
      obtain ⟨h0, h1, t0, t1⟩ := hi i (by omega)
      obtain ⟨x0, e0, _, _⟩ := DataW.trod_int Tryz.underlying3 t0
      obtain ⟨x1, e1, _, _⟩ := DataW.trod_int Tryz.underlying3 t1
      simp only [List.cons.injEq, and_true] at e0 e1
      exact ⟨(x0, x1), by rw [h0, e0], by rw [h1, e1]⟩
    obtain ⟨q, hq⟩ := choose_lt each
    refine ⟨some a, cap, (List.range len).map q, by simp, ?_, by simp; omega⟩
    intro i hi'
    have hil : i < len := by simpa using hi'
    obtain ⟨h0, h1⟩ := hq i hil
    obtain ⟨b, off, spot⟩ := a
    have hspot : spot = none := by simpa [Addr.add] using World.cell?_spot (hq 0 (by omega)).1
    subst hspot
    rw [add_plain] at h0 h1
    have hpx : px ((List.range len).map q) i = (q i).1 := by simp [px, hil]
    have hpy : py ((List.range len).map q) i = (q i).2 := by simp [py, hil]
    rw [hpx, hpy]
    refine ⟨b, off, rfl, World.block_lt_of_cell? W _ h0, ?_, ?_⟩
    · exact h0
    · simpa [Nat.add_assoc] using h1

set_option maxRecDepth 100000 in
/-- a shape of the laws that came in -/
theorem open_shape {H : Type} {enc : TypeId × Value → H} {W : World} {r : Reach} {b0 base : Nat} {spare : Nat → Bool} {held : Bool} {v : Value} {d : DataW H} {p : List MemPlace}
    (hv : Value.okWide Tryz.prog W r b0 33 v) (h : DataW.Trod enc Tryz.prog W base spare held 33 v d p) :
    ∃ (k : Int) (a : Option Addr) (cap : Nat) (ps : List (Int × Int)), v = .agg #[.int .i64 k, .slice a ps.length cap] ∧ PtsAt W a ps ∧ ps.length ≤ maxLen := by
  obtain ⟨c0, c1, y0, y1, m, rfl, _, _, hy0, hy1⟩ := open_agg2 Tryz.underlying33 (by kernel_rfl) cells_lshape hv h
  obtain ⟨k, e0, _, _⟩ := DataW.trod_int Tryz.underlying3 hy0
  simp only [List.cons.injEq, and_true] at e0
  obtain ⟨a, cap, ps, rfl, hp, hm⟩ := open_pts hy1
  exact ⟨k, a, cap, ps, by rw [e0], hp, hm⟩
end Go.Proofs.YtdchfologicbeaaGreat
