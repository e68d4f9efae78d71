/- Proved here: an argument that is a list of things reads as such a list; no condition. -/
import Derived.Test.YtdchfologicbeaaGreatWFeatArg
import Derived.Test.YtdchfologicbeaaGreatWSheet
namespace Go.Proofs.YtdchfologicbeaaGreat
set_option linter.unusedVariables false
open Go.ChangeShapes Go.WideShapes Go.ChangeAt Go.RowKit Go.Deep Go.Joins

set_option maxRecDepth 100000 in
/-- the four cells of a thing of the laws -/
theorem feat_cells {H : Type} {enc : TypeId × Value → H} {W : World} {base : Nat} {spare : Nat → Bool} {held : Bool} {fuel : Nat} {cs : List Value} {x : DataW H × List MemPlace}
    (hl : cs.length = 4) (hf : DataW.trod enc Tryz.prog W base spare held fuel 36 cs = some x) :
    ∃ (a c : Option Addr) (cap ca : Nat) (f : Ft), cs = [.string f.1, .int .i64 f.2.1, .slice a f.2.2.1.length cap, .slice c f.2.2.2.length ca] ∧ FeatIn W f.1 a f.2.2.1 c f.2.2.2 := by
  match cs, hl with
  | [c0, c1, c2, c3], _ =>
  obtain ⟨y0, y1, y2, n, hx, _, h0, h1, h2⟩ := trod_struct3 Tryz.underlying36 hf
  simp only [cells_string] at h0
  simp only [cells_lshape] at h1
  have hc2 : Tryz.prog.cellsOf 34 = 1 := by kernel_rfl
  have hc3 : Tryz.prog.cellsOf 31 = 1 := by kernel_rfl
  simp only [hc2] at h2
  obtain ⟨id, e0, _, w0⟩ := DataW.trod_string Tryz.underlying9 h0
  obtain ⟨z0, z1, n', _, _, g0, g1⟩ := trod_struct2 Tryz.underlying33 h1
  simp only [cells_int] at g0
  simp only [hc3] at g1
  obtain ⟨k, e1, _, _⟩ := DataW.trod_int Tryz.underlying3 g0
  obtain ⟨a, cap, ps, e2, hp, hm⟩ := open_pts g1
  obtain ⟨c, ca, ts, e3, ht, hm', htl⟩ := open_tags h2
  simp at e0 e1
  subst e0 e1 e2 e3
  unfold maxLen at w0 hm hm'
  exact ⟨a, c, cap, ca, (id, k, ps, ts), rfl, hp, ht, w0, hm, hm', htl⟩

set_option maxRecDepth 100000 in
/-- a list of things of the laws that came in -/
theorem open_feats {H : Type} {enc : TypeId × Value → H} {W : World} {r : Reach} {b0 base : Nat} {spare : Nat → Bool} {held : Bool} {v : Value} {d : DataW H} {p : List MemPlace}
    (hv : Value.okWide Tryz.prog W r b0 68 v) (h : DataW.Trod enc Tryz.prog W base spare held 68 v d p) :
    ∃ (a : Option Addr) (cap : Nat) (fs : List Ft), v = .slice a fs.length cap ∧ FeatsIn W a fs := by
  obtain ⟨a0, len, cap, rfl⟩ := okWide_slice Tryz.underlying68 hv
  obtain ⟨fuel, hf⟩ := h
  rcases open_slice Tryz.underlying68 hf with ⟨hcs, _⟩ | ⟨a, l, c, m, n, D, Pl, hcs, hb, hl, hm, hmm, hx, hi⟩
  · obtain ⟨rfl, rfl, rfl⟩ : a0 = none ∧ len = 0 ∧ cap = 0 := by simpa [Value.cells] using hcs
    exact ⟨none, 0, [], rfl, FeatsAt.nil _ _, Nat.zero_le _, fun j h => absurd h (Nat.not_lt_zero _)⟩
  · obtain ⟨rfl, rfl, rfl⟩ : a0 = some a ∧ len = l ∧ cap = c := by simpa [Value.cells] using hcs
    have hlm : len ≤ m := by rw [hmm]; split <;> omega
    have each : ∀ i, i < len → ∃ q : (Option Addr × Option Addr × Nat × Nat) × Ft, (W.cell? (a.add (i * 4)) = some (.string q.2.1) ∧ W.cell? (a.add (i * 4 + 1)) = some (.int .i64 q.2.2.1) ∧ W.cell? (a.add (i * 4 + 2)) = some (.slice q.1.1 q.2.2.2.1.length q.1.2.2.1) ∧ W.cell? (a.add (i * 4 + 3)) = some (.slice q.1.2.1 q.2.2.2.2.length q.1.2.2.2)) ∧ FeatIn W q.2.1 q.1.1 q.2.2.2.1 q.1.2.1 q.2.2.2.2 := by
      intro i hil
      obtain ⟨cs', h1, h2⟩ := hi i (by omega)
      rw [cells_lfeat] at h1
      obtain ⟨_, hlen, hcell⟩ := World.cells?_some h1
      obtain ⟨pa, ta, pc, tc, f, rfl, hF⟩ := feat_cells hlen h2
      have e0 := hcell 0 (by omega)
      have e1 := hcell 1 (by omega)
      have e2 := hcell 2 (by omega)
      have e3 := hcell 3 (by omega)
      rw [add_add] at e0 e1 e2 e3
      exact ⟨((pa, ta, pc, tc), f), ⟨by simpa using e0, by simpa using e1, by simpa using e2, by simpa using e3⟩, hF⟩
    obtain ⟨q, hq⟩ := choose_lt each
    have hg : ∀ i, i < len → fg ((List.range len).map fun i => (q i).2) i = (q i).2 := fun i hil => by simp [fg, hil]
    unfold maxLen at hm
    refine ⟨some a, cap, (List.range len).map fun i => (q i).2, by simp, ?_, by simp; omega, ?_⟩
    · intro i hi'
      have hil : i < len := by simpa using hi'
      obtain ⟨⟨h0, h1, h2, h3⟩, hF⟩ := hq i hil
      obtain ⟨b, off, spot⟩ := a
      have hspot : spot = none := by simpa [Addr.add] using World.cell?_spot (hq 0 (by omega)).1.1
      subst hspot
      rw [add_plain] at h0 h1 h2 h3
      unfold fid fkd fps fts
      rw [hg i hil]
      exact ⟨b, off, (q i).1.1, (q i).1.2.2.1, (q i).1.2.1, (q i).1.2.2.2, rfl, World.block_lt_of_cell? W _ h0, h0, by simpa [Nat.add_assoc] using h1, by simpa [Nat.add_assoc] using h2, by simpa [Nat.add_assoc] using h3, hF.pts, hF.tags⟩
    · intro i hi'
      have hil : i < len := by simpa using hi'
      obtain ⟨_, hF⟩ := hq i hil
      unfold fid fps fts
      rw [hg i hil]
      exact ⟨by have := hF.idl; omega, by have := hF.ptl; omega, by have := hF.tgl; omega, hF.txl⟩

end Go.Proofs.YtdchfologicbeaaGreat
