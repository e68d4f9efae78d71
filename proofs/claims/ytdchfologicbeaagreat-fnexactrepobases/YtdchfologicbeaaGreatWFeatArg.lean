/- Proved here: an argument that is a thing reads as a name, a kind, a row of points and a row of tags; no condition. -/
import Derived.Test.YtdchfologicbeaaGreatWArg
import Derived.Test.YtdchfologicbeaaGreatWFeat
namespace Go.Proofs.YtdchfologicbeaaGreat
set_option linter.unusedVariables false
open Go.ChangeShapes Go.WideShapes Go.ChangeAt Go.RowKit Go.Deep Go.Joins

theorem cells_lfeat : Tryz.prog.cellsOf 36 = 4 := by kernel_rfl
theorem cells_ltag : Tryz.prog.cellsOf 177 = 2 := by kernel_rfl
theorem cells_string : Tryz.prog.cellsOf 9 = 1 := by kernel_rfl

/-- a slice of the laws' tags that came in -/
theorem open_tags {H : Type} {enc : TypeId × Value → H} {W : World} {base : Nat} {spare : Nat → Bool} {held : Bool} {fuel : Nat} {v : Value} {x : DataW H × List MemPlace}
    (h : DataW.trod enc Tryz.prog W base spare held fuel 34 [v] = some x) :
    ∃ (a : Option Addr) (cap : Nat) (ts : List Tg), v = .slice a ts.length cap ∧ TagsAt W a ts ∧ ts.length ≤ maxLen ∧ TagsLen ts 9223372036854775807 := by
  rcases open_slice_pairs Tryz.underlying34 Tryz.underlying177 cells_ltag rfl rfl cells_string cells_string h with ⟨hcs, _⟩ | ⟨a, len, cap, m, n, V0, V1, D0, D1, P0, P1, hcs, hb, hl, hm, hmm, hx, hi⟩
  · obtain rfl : v = .slice none 0 0 := by simpa using hcs
    exact ⟨none, 0, [], rfl, TagsAt.nil _ _, Nat.zero_le _, fun j h => absurd h (Nat.not_lt_zero _)⟩
  · obtain rfl : v = .slice (some a) len cap := by simpa using hcs
    have hlm : len ≤ m := by rw [hmm]; split <;> omega
    have each : ∀ i, i < len → ∃ q : Tg, W.cell? (a.add (i * 2)) = some (.string q.1) ∧ W.cell? (a.add (i * 2 + 1)) = some (.string q.2) ∧ q.1.size ≤ maxLen ∧ q.2.size ≤ maxLen := by
      intro i hil
      obtain ⟨h0, h1, t0, t1⟩ := hi i (by omega)
      obtain ⟨x0, e0, _, w0⟩ := DataW.trod_string Tryz.underlying9 t0
      obtain ⟨x1, e1, _, w1⟩ := DataW.trod_string Tryz.underlying9 t1
      simp only [List.cons.injEq, and_true] at e0 e1
      exact ⟨(x0, x1), by rw [h0, e0], by rw [h1, e1], w0, w1⟩
    obtain ⟨q, hq⟩ := choose_lt each
    have hpx : ∀ i, i < len → tk ((List.range len).map q) i = (q i).1 := fun i hil => by simp [tk, hil]
    have hpy : ∀ i, i < len → tv ((List.range len).map q) i = (q i).2 := fun i hil => by simp [tv, hil]
    refine ⟨some a, cap, (List.range len).map q, by simp, ?_, by simp; omega, ?_⟩
    · intro i hi'
      have hil : i < len := by simpa using hi'
      obtain ⟨h0, h1, _, _⟩ := hq i hil
      obtain ⟨b, off, spot⟩ := a
      have hspot : spot = none := by simpa [Addr.add] using World.cell?_spot (hq 0 (by omega)).1
      subst hspot
      rw [add_plain] at h0 h1
      rw [hpx i hil, hpy i hil]
      refine ⟨b, off, rfl, World.block_lt_of_cell? W _ h0, ?_, ?_⟩
      · exact h0
      · simpa [Nat.add_assoc] using h1
    · intro i hi'
      have hil : i < len := by simpa using hi'
      obtain ⟨_, _, h2, h3⟩ := hq i hil
      unfold maxLen at h2 h3
      rw [hpx i hil, hpy i hil]
      omega

set_option maxRecDepth 100000 in
/-- a thing of the laws that came in -/
theorem open_feat {H : Type} {enc : TypeId × Value → H} {W : World} {r : Reach} {b0 base : Nat} {spare : Nat → Bool} {held : Bool} {v : Value} {d : DataW H} {p : List MemPlace}
    (hv : Value.okWide Tryz.prog W r b0 36 v) (h : DataW.Trod enc Tryz.prog W base spare held 36 v d p) :
    ∃ (id : ByteArray) (k : Int) (a : Option Addr) (cap : Nat) (ps : List (Int × Int)) (c : Option Addr) (ca : Nat) (ts : List Tg), v = .agg #[.string id, .int .i64 k, .slice a ps.length cap, .slice c ts.length ca] ∧ FeatIn W id a ps c ts := by
  obtain ⟨cs, rfl, hsz⟩ := okWide_struct Tryz.underlying36 hv
  obtain ⟨c0, c1, c2, c3, rfl⟩ := array4 (hsz.trans cells_lfeat)
  obtain ⟨fuel, hf⟩ := h
  obtain ⟨y0, y1, y2, n, hx, _, h0, h1, h2⟩ := trod_struct3 Tryz.underlying36 hf
  simp only [Value.cells, cells_string] at h0
  simp only [Value.cells, cells_lshape] at h1
  have hc2 : Tryz.prog.cellsOf 34 = 1 := by kernel_rfl
  have hc3 : Tryz.prog.cellsOf 31 = 1 := by kernel_rfl
  simp only [Value.cells, hc2] at h2
  obtain ⟨id, e0, _, w0⟩ := DataW.trod_string Tryz.underlying9 h0
  obtain ⟨z0, z1, n', _, _, g0, g1⟩ := trod_struct2 Tryz.underlying33 h1
  simp only [cells_int] at g0
  simp only [hc3] at g1
  obtain ⟨k, e1, _, _⟩ := DataW.trod_int Tryz.underlying3 g0
  obtain ⟨a, cap, ps, e2, hp, hm⟩ := open_pts g1
  obtain ⟨c, ca, ts, e3, ht, hm', htl⟩ := open_tags h2
  simp at e0 e1
  subst e0 e1 e2 e3
  unfold maxLen at w0 hm hm'
  exact ⟨id, k, a, cap, ps, c, ca, ts, rfl, hp, ht, w0, hm, hm', htl⟩

end Go.Proofs.YtdchfologicbeaaGreat
