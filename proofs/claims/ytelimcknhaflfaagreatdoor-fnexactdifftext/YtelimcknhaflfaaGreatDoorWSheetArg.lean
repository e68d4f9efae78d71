/- Proved here: an argument that is a list of things reads as such a list; no condition. -/
import Derived.Test.YtelimcknhaflfaaGreatDoorWFeatArg
import Derived.Test.YtelimcknhaflfaaGreatDoorWSheet
namespace Go.Proofs.YtelimcknhaflfaaGreatDoor
set_option linter.unusedVariables false
open Go.ChangeShapes Go.WideShapes Go.ChangeAt Go.RowKit Go.Deep Go.Joins

set_option maxRecDepth 100000 in
/-- the four cells of a thing of the laws -/
theorem feat_cells {H : Type} {enc : TypeId × Value → H} {W : World} {base : Nat} {spare : Nat → Bool} {held : Bool} {fuel : Nat} {cs : List Value} {x : DataW H × List MemPlace}
    (hl : cs.length = 4) (hf : DataW.trod enc Tryz.prog W base spare held fuel 35 cs = some x) :
    ∃ (a c : Option Addr) (cap ca : Nat) (f : Ft), cs = [.string f.1, .int .i64 f.2.1, .slice a f.2.2.1.length cap, .slice c f.2.2.2.length ca] ∧ FeatIn W f.1 a f.2.2.1 c f.2.2.2 := by
  match cs, hl with
  | [c0, c1, c2, c3], _ =>
  obtain ⟨y0, y1, y2, n, hx, _, h0, h1, h2⟩ := trod_struct3 Tryz.underlying35 hf
  simp only [cells_string] at h0
  simp only [cells_lshape] at h1
  have hc2 : Tryz.prog.cellsOf 33 = 1 := by kernel_rfl
  have hc3 : Tryz.prog.cellsOf 30 = 1 := by kernel_rfl
  simp only [hc2] at h2
  obtain ⟨id, e0, _, w0⟩ := DataW.trod_string Tryz.underlying9 h0
  obtain ⟨z0, z1, n', _, _, g0, g1⟩ := trod_struct2 Tryz.underlying32 h1
  simp only [cells_int] at g0
  simp only [hc3] at g1
  obtain ⟨k, e1, _, _⟩ := DataW.trod_int Tryz.underlying3 g0
  obtain ⟨a, cap, ps, e2, hp, hm⟩ := open_pts g1
  obtain ⟨c, ca, ts, e3, ht, hm', htl⟩ := open_tags h2
  simp at e0 e1
  subst e0 e1 e2 e3
  unfold maxLen at w0 hm hm'
  exact ⟨a, c, cap, ca, (id, k, ps, ts), rfl, hp, ht, w0, hm, hm', htl⟩

end Go.Proofs.YtelimcknhaflfaaGreatDoor
