/- Proved here: the program's ShapeArea and the model's both answer the plain sum 'shapeArea'; rows of at most 1,048,576 points. -/
import Derived.Test.YtdfadpejddhbkaaGreatWImplOk
import Derived.Test.YtdfadpejddhbkaaGreatWSpecOk
import Derived.Deep.RegionHeld3
namespace Go.Proofs.YtdfadpejddhbkaaGreat
set_option linter.unusedVariables false
open Go.ChangeShapes Go.WideShapes Go.ChangeAt Go.RowKit

/-- the place behind a place, round -/
def nxt (n i : Nat) : Nat := if i + 1 < n then i + 1 else 0
def term (ps : List (Int × Int)) (i : Nat) : Int := px ps i * py ps (nxt ps.length i) - px ps (nxt ps.length i) * py ps i
def areaTo (ps : List (Int × Int)) : Nat → Int
  | 0 => 0
  | n + 1 => areaTo ps n + term ps n
def shapeArea (k : Int) (ps : List (Int × Int)) : Int := if shapeOk k ps = true ∧ k = 3 then areaTo ps ps.length else 0

theorem mul_bd {x y : Int} (h1 : -1000 ≤ x) (h2 : x ≤ 1000) (h3 : -1000 ≤ y) (h4 : y ≤ 1000) : -1000000 ≤ x * y ∧ x * y ≤ 1000000 := by
  have hx : x.natAbs ≤ 1000 := by omega
  have hy : y.natAbs ≤ 1000 := by omega
  have := Nat.mul_le_mul hx hy
  rw [← Int.natAbs_mul] at this
  omega

theorem inR_bd {n : Int} (h : inR n = true) : -1000 ≤ n ∧ n ≤ 1000 := by
  simpa [inR] using h

theorem good_bd {ps : List (Int × Int)} (h : ptsGood ps = true) {i : Nat} (hi : i < ps.length) : (-1000 ≤ px ps i ∧ px ps i ≤ 1000) ∧ (-1000 ≤ py ps i ∧ py ps i ≤ 1000) := by
  have := ptsGood_at h hi
  unfold ptGood at this
  simp only [Bool.and_eq_true] at this
  exact ⟨inR_bd this.1.1, inR_bd this.1.2⟩

theorem nxt_lt {n i : Nat} (h : i < n) : nxt n i < n := by unfold nxt; split <;> omega

theorem areaTo_bd {ps : List (Int × Int)} (h : ptsGood ps = true) : ∀ n, n ≤ ps.length → -2000000 * (n : Int) ≤ areaTo ps n ∧ areaTo ps n ≤ 2000000 * (n : Int)
  | 0, _ => by simp [areaTo]
  | n + 1, hn => by
    have ih := areaTo_bd h n (by omega)
    have g1 := good_bd h (i := n) (by omega)
    have g2 := good_bd h (i := nxt ps.length n) (nxt_lt (by omega))
    have m1 := mul_bd g1.1.1 g1.1.2 g2.2.1 g2.2.2
    have m2 := mul_bd g2.1.1 g2.1.2 g1.2.1 g1.2.2
    simp only [areaTo, term]
    omega

theorem shapeOk_parts {k : Int} {ps : List (Int × Int)} (h : shapeOk k ps = true) : ps.length ≤ 6 ∧ kindHolds k ps = true ∧ ptsGood ps = true := by
  unfold shapeOk at h
  simp only [Bool.and_eq_true, decide_eq_true_eq] at h
  exact ⟨h.1.1, h.1.2, h.2⟩

theorem m_area_dot (w : World) : (method 365 236 (.agg #[]) "loop.example/townland/impl.area").run Tryz.prog w = .ok (241, .agg #[]) w := by kernel_rfl
theorem m_area_line (w : World) : (method 365 237 (.agg #[]) "loop.example/townland/impl.area").run Tryz.prog w = .ok (246, .agg #[]) w := by kernel_rfl
theorem m_area_ring (w : World) : (method 365 238 (.agg #[]) "loop.example/townland/impl.area").run Tryz.prog w = .ok (251, .agg #[]) w := by kernel_rfl

theorem kind_cases {k : Int} {ps : List (Int × Int)} (h : shapeOk k ps = true) : k = 1 ∨ k = 2 ∨ k = 3 := by
  have := (shapeOk_parts h).2.1
  unfold kindHolds at this
  by_cases h1 : k = 1
  · exact .inl h1
  · by_cases h2 : k = 2
    · exact .inr (.inl h2)
    · by_cases h3 : k = 3
      · exact .inr (.inr h3)
      · simp [h1, h2, h3] at this

end Go.Proofs.YtdfadpejddhbkaaGreat
