/- Proved here: an argument that is a shape reads as a kind and a row of points; no condition. Proved here: an argument that is a thing reads as a name, a kind, a row of points and a row of tags; no condition. Proved here: an argument that is a list of things reads as such a list; no condition. Proved here: a list of things that toFeatS laid lies in memory of its own, its parts apart; no condition. Proved here: a list of versions is copied into memory that lies version by version; lists of at most 1,048,576. Proved here: an argument that is versions and branches reads as such; no condition. Proved here: the program holds two lists of things against each other thing by thing; lists of at most 1,048,576 things, points and tags. -/
import Derived.Test.YtdfadpejddhbkaaGreatWBase
import Derived.Deep.SlicePairs
import Derived.Lib.SmallJoins
import Derived.ShutString
import Derived.ChangeOld
import Derived.Test.YtdfadpejddhbkaaGreatWFeat
import Derived.Test.YtdfadpejddhbkaaGreatWSheet
import Derived.Test.YtdfadpejddhbkaaGreatG1
import Derived.Test.YtdfadpejddhbkaaGreatWQuietB
import Derived.BigQuiet
import Derived.Test.YtdfadpejddhbkaaGreatG2
import Derived.Test.YtdfadpejddhbkaaGreatWSheetEq
namespace Go.Proofs.YtdfadpejddhbkaaGreat
set_option linter.unusedVariables false
open Go.ChangeShapes Go.WideShapes Go.ChangeAt Go.RowKit Go.Deep Go.Joins

theorem own : ownKnob Tryz.prog.godebug = none := by kernel_rfl
theorem laidOut : laidOutB Tryz.prog = true := by kernel_rfl
theorem cells_lshape : Tryz.prog.cellsOf 122 = 2 := by kernel_rfl
theorem cells_lpt : Tryz.prog.cellsOf 217 = 2 := by kernel_rfl
theorem cells_int : Tryz.prog.cellsOf 3 = 1 := by kernel_rfl

/-- a slice of the laws' points that came in -/
theorem open_pts {H : Type} {enc : TypeId × Value → H} {W : World} {base : Nat} {spare : Nat → Bool} {held : Bool} {fuel : Nat} {v : Value} {x : DataW H × List MemPlace}
    (h : DataW.trod enc Tryz.prog W base spare held fuel 120 [v] = some x) :
    ∃ (a : Option Addr) (cap : Nat) (ps : List (Int × Int)), v = .slice a ps.length cap ∧ PtsAt W a ps ∧ ps.length ≤ maxLen := by
  rcases open_slice_pairs Tryz.underlying120 Tryz.underlying217 cells_lpt rfl rfl cells_int cells_int h with ⟨hcs, _⟩ | ⟨a, len, cap, m, n, V0, V1, D0, D1, P0, P1, hcs, hb, hl, hm, hmm, hx, hi⟩
  · obtain rfl : v = .slice none 0 0 := by simpa using hcs
    exact ⟨none, 0, [], rfl, PtsAt.nil _ _, Nat.zero_le _⟩
  · obtain rfl : v = .slice (some a) len cap := by simpa using hcs
    have hlm : len ≤ m := by rw [hmm]; split <;> omega
    have each : ∀ i, i < len → ∃ q : Int × Int, W.cell? (a.add (i * 2)) = some (.int .i64 q.1) ∧ W.cell? (a.add (i * 2 + 1)) = some (.int .i64 q.2) := by
      intro i hil
      obtain ⟨h0, h1, t0, t1⟩ := hi i (by omega)
      obtain ⟨x0, e0, _, _⟩ := DataW.trod_int Tryz.underlying3 t0
      obtain ⟨x1, e1, _, _⟩ := DataW.trod_int Tryz.underlying3 t1
      simp only [List.cons.injEq, and_true] at e0 e1
      exact ⟨(x0, x1), by rw [h0, e0], by rw [h1, e1]⟩
    obtain ⟨q, hq⟩ := choose_lt each
    refine ⟨some a, cap, (List.range len).map q, by simp, ?_, by simp; omega⟩
    intro i hi'
    have hil : i < len := by simpa using hi'
    obtain ⟨h0, h1⟩ := hq i hil
    obtain ⟨b, off, spot⟩ := a
    have hspot : spot = none := by simpa [Addr.add] using World.cell?_spot (hq 0 (by omega)).1
    subst hspot
    rw [add_plain] at h0 h1
    have hpx : px ((List.range len).map q) i = (q i).1 := by simp [px, hil]
    have hpy : py ((List.range len).map q) i = (q i).2 := by simp [py, hil]
    rw [hpx, hpy]
    refine ⟨b, off, rfl, World.block_lt_of_cell? W _ h0, ?_, ?_⟩
    · exact h0
    · simpa [Nat.add_assoc] using h1

set_option maxRecDepth 100000 in
/-- a shape of the laws that came in -/
theorem open_shape {H : Type} {enc : TypeId × Value → H} {W : World} {r : Reach} {b0 base : Nat} {spare : Nat → Bool} {held : Bool} {v : Value} {d : DataW H} {p : List MemPlace}
    (hv : Value.okWide Tryz.prog W r b0 122 v) (h : DataW.Trod enc Tryz.prog W base spare held 122 v d p) :
    ∃ (k : Int) (a : Option Addr) (cap : Nat) (ps : List (Int × Int)), v = .agg #[.int .i64 k, .slice a ps.length cap] ∧ PtsAt W a ps ∧ ps.length ≤ maxLen := by
  obtain ⟨c0, c1, y0, y1, m, rfl, _, _, hy0, hy1⟩ := open_agg2 Tryz.underlying122 (by kernel_rfl) cells_lshape hv h
  obtain ⟨k, e0, _, _⟩ := DataW.trod_int Tryz.underlying3 hy0
  simp only [List.cons.injEq, and_true] at e0
  obtain ⟨a, cap, ps, rfl, hp, hm⟩ := open_pts hy1
  exact ⟨k, a, cap, ps, by rw [e0], hp, hm⟩
end Go.Proofs.YtdfadpejddhbkaaGreat

namespace Go.Proofs.YtdfadpejddhbkaaGreat
set_option linter.unusedVariables false
open Go.ChangeShapes Go.WideShapes Go.ChangeAt Go.RowKit Go.Deep Go.Joins

theorem cells_lfeat : Tryz.prog.cellsOf 125 = 4 := by kernel_rfl
theorem cells_ltag : Tryz.prog.cellsOf 198 = 2 := by kernel_rfl
theorem cells_string : Tryz.prog.cellsOf 9 = 1 := by kernel_rfl

/-- a slice of the laws' tags that came in -/
theorem open_tags {H : Type} {enc : TypeId × Value → H} {W : World} {base : Nat} {spare : Nat → Bool} {held : Bool} {fuel : Nat} {v : Value} {x : DataW H × List MemPlace}
    (h : DataW.trod enc Tryz.prog W base spare held fuel 123 [v] = some x) :
    ∃ (a : Option Addr) (cap : Nat) (ts : List Tg), v = .slice a ts.length cap ∧ TagsAt W a ts ∧ ts.length ≤ maxLen ∧ TagsLen ts 9223372036854775807 := by
  rcases open_slice_pairs Tryz.underlying123 Tryz.underlying198 cells_ltag rfl rfl cells_string cells_string h with ⟨hcs, _⟩ | ⟨a, len, cap, m, n, V0, V1, D0, D1, P0, P1, hcs, hb, hl, hm, hmm, hx, hi⟩
  · obtain rfl : v = .slice none 0 0 := by simpa using hcs
    exact ⟨none, 0, [], rfl, TagsAt.nil _ _, Nat.zero_le _, fun j h => absurd h (Nat.not_lt_zero _)⟩
  · obtain rfl : v = .slice (some a) len cap := by simpa using hcs
    have hlm : len ≤ m := by rw [hmm]; split <;> omega
    have each : ∀ i, i < len → ∃ q : Tg, W.cell? (a.add (i * 2)) = some (.string q.1) ∧ W.cell? (a.add (i * 2 + 1)) = some (.string q.2) ∧ q.1.size ≤ maxLen ∧ q.2.size ≤ maxLen := by
      intro i hil
      obtain ⟨h0, h1, t0, t1⟩ := hi i (by omega)
      obtain ⟨x0, e0, _, w0⟩ := DataW.trod_string Tryz.underlying9 t0
      obtain ⟨x1, e1, _, w1⟩ := DataW.trod_string Tryz.underlying9 t1
      simp only [List.cons.injEq, and_true] at e0 e1
      exact ⟨(x0, x1), by rw [h0, e0], by rw [h1, e1], w0, w1⟩
    obtain ⟨q, hq⟩ := choose_lt each
    have hpx : ∀ i, i < len → tk ((List.range len).map q) i = (q i).1 := fun i hil => by simp [tk, hil]
    have hpy : ∀ i, i < len → tv ((List.range len).map q) i = (q i).2 := fun i hil => by simp [tv, hil]
    refine ⟨some a, cap, (List.range len).map q, by simp, ?_, by simp; omega, ?_⟩
    · intro i hi'
      have hil : i < len := by simpa using hi'
      obtain ⟨h0, h1, _, _⟩ := hq i hil
      obtain ⟨b, off, spot⟩ := a
      have hspot : spot = none := by simpa [Addr.add] using World.cell?_spot (hq 0 (by omega)).1
      subst hspot
      rw [add_plain] at h0 h1
      rw [hpx i hil, hpy i hil]
      refine ⟨b, off, rfl, World.block_lt_of_cell? W _ h0, ?_, ?_⟩
      · exact h0
      · simpa [Nat.add_assoc] using h1
    · intro i hi'
      have hil : i < len := by simpa using hi'
      obtain ⟨_, _, h2, h3⟩ := hq i hil
      unfold maxLen at h2 h3
      rw [hpx i hil, hpy i hil]
      omega

set_option maxRecDepth 100000 in
/-- a thing of the laws that came in -/
theorem open_feat {H : Type} {enc : TypeId × Value → H} {W : World} {r : Reach} {b0 base : Nat} {spare : Nat → Bool} {held : Bool} {v : Value} {d : DataW H} {p : List MemPlace}
    (hv : Value.okWide Tryz.prog W r b0 125 v) (h : DataW.Trod enc Tryz.prog W base spare held 125 v d p) :
    ∃ (id : ByteArray) (k : Int) (a : Option Addr) (cap : Nat) (ps : List (Int × Int)) (c : Option Addr) (ca : Nat) (ts : List Tg), v = .agg #[.string id, .int .i64 k, .slice a ps.length cap, .slice c ts.length ca] ∧ FeatIn W id a ps c ts := by
  obtain ⟨cs, rfl, hsz⟩ := okWide_struct Tryz.underlying125 hv
  obtain ⟨c0, c1, c2, c3, rfl⟩ := array4 (hsz.trans cells_lfeat)
  obtain ⟨fuel, hf⟩ := h
  obtain ⟨y0, y1, y2, n, hx, _, h0, h1, h2⟩ := trod_struct3 Tryz.underlying125 hf
  simp only [Value.cells, cells_string] at h0
  simp only [Value.cells, cells_lshape] at h1
  have hc2 : Tryz.prog.cellsOf 123 = 1 := by kernel_rfl
  have hc3 : Tryz.prog.cellsOf 120 = 1 := by kernel_rfl
  simp only [Value.cells, hc2] at h2
  obtain ⟨id, e0, _, w0⟩ := DataW.trod_string Tryz.underlying9 h0
  obtain ⟨z0, z1, n', _, _, g0, g1⟩ := trod_struct2 Tryz.underlying122 h1
  simp only [cells_int] at g0
  simp only [hc3] at g1
  obtain ⟨k, e1, _, _⟩ := DataW.trod_int Tryz.underlying3 g0
  obtain ⟨a, cap, ps, e2, hp, hm⟩ := open_pts g1
  obtain ⟨c, ca, ts, e3, ht, hm', htl⟩ := open_tags h2
  simp at e0 e1
  subst e0 e1 e2 e3
  unfold maxLen at w0 hm hm'
  exact ⟨id, k, a, cap, ps, c, ca, ts, rfl, hp, ht, w0, hm, hm', htl⟩

end Go.Proofs.YtdfadpejddhbkaaGreat

namespace Go.Proofs.YtdfadpejddhbkaaGreat
set_option linter.unusedVariables false
open Go.ChangeShapes Go.WideShapes Go.ChangeAt Go.RowKit Go.Deep Go.Joins

set_option maxRecDepth 100000 in
/-- the four cells of a thing of the laws -/
theorem feat_cells {H : Type} {enc : TypeId × Value → H} {W : World} {base : Nat} {spare : Nat → Bool} {held : Bool} {fuel : Nat} {cs : List Value} {x : DataW H × List MemPlace}
    (hl : cs.length = 4) (hf : DataW.trod enc Tryz.prog W base spare held fuel 125 cs = some x) :
    ∃ (a c : Option Addr) (cap ca : Nat) (f : Ft), cs = [.string f.1, .int .i64 f.2.1, .slice a f.2.2.1.length cap, .slice c f.2.2.2.length ca] ∧ FeatIn W f.1 a f.2.2.1 c f.2.2.2 := by
  match cs, hl with
  | [c0, c1, c2, c3], _ =>
  obtain ⟨y0, y1, y2, n, hx, _, h0, h1, h2⟩ := trod_struct3 Tryz.underlying125 hf
  simp only [cells_string] at h0
  simp only [cells_lshape] at h1
  have hc2 : Tryz.prog.cellsOf 123 = 1 := by kernel_rfl
  have hc3 : Tryz.prog.cellsOf 120 = 1 := by kernel_rfl
  simp only [hc2] at h2
  obtain ⟨id, e0, _, w0⟩ := DataW.trod_string Tryz.underlying9 h0
  obtain ⟨z0, z1, n', _, _, g0, g1⟩ := trod_struct2 Tryz.underlying122 h1
  simp only [cells_int] at g0
  simp only [hc3] at g1
  obtain ⟨k, e1, _, _⟩ := DataW.trod_int Tryz.underlying3 g0
  obtain ⟨a, cap, ps, e2, hp, hm⟩ := open_pts g1
  obtain ⟨c, ca, ts, e3, ht, hm', htl⟩ := open_tags h2
  simp at e0 e1
  subst e0 e1 e2 e3
  unfold maxLen at w0 hm hm'
  exact ⟨a, c, cap, ca, (id, k, ps, ts), rfl, hp, ht, w0, hm, hm', htl⟩

set_option maxRecDepth 100000 in
/-- a list of things of the laws that came in -/
theorem open_feats {H : Type} {enc : TypeId × Value → H} {W : World} {r : Reach} {b0 base : Nat} {spare : Nat → Bool} {held : Bool} {v : Value} {d : DataW H} {p : List MemPlace}
    (hv : Value.okWide Tryz.prog W r b0 64 v) (h : DataW.Trod enc Tryz.prog W base spare held 64 v d p) :
    ∃ (a : Option Addr) (cap : Nat) (fs : List Ft), v = .slice a fs.length cap ∧ FeatsIn W a fs := by
  obtain ⟨a0, len, cap, rfl⟩ := okWide_slice Tryz.underlying64 hv
  obtain ⟨fuel, hf⟩ := h
  rcases open_slice Tryz.underlying64 hf with ⟨hcs, _⟩ | ⟨a, l, c, m, n, D, Pl, hcs, hb, hl, hm, hmm, hx, hi⟩
  · obtain ⟨rfl, rfl, rfl⟩ : a0 = none ∧ len = 0 ∧ cap = 0 := by simpa [Value.cells] using hcs
    exact ⟨none, 0, [], rfl, FeatsAt.nil _ _, Nat.zero_le _, fun j h => absurd h (Nat.not_lt_zero _)⟩
  · obtain ⟨rfl, rfl, rfl⟩ : a0 = some a ∧ len = l ∧ cap = c := by simpa [Value.cells] using hcs
    have hlm : len ≤ m := by rw [hmm]; split <;> omega
    have each : ∀ i, i < len → ∃ q : (Option Addr × Option Addr × Nat × Nat) × Ft, (W.cell? (a.add (i * 4)) = some (.string q.2.1) ∧ W.cell? (a.add (i * 4 + 1)) = some (.int .i64 q.2.2.1) ∧ W.cell? (a.add (i * 4 + 2)) = some (.slice q.1.1 q.2.2.2.1.length q.1.2.2.1) ∧ W.cell? (a.add (i * 4 + 3)) = some (.slice q.1.2.1 q.2.2.2.2.length q.1.2.2.2)) ∧ FeatIn W q.2.1 q.1.1 q.2.2.2.1 q.1.2.1 q.2.2.2.2 := by
      intro i hil
      obtain ⟨cs', h1, h2⟩ := hi i (by omega)
      rw [cells_lfeat] at h1
      obtain ⟨_, hlen, hcell⟩ := World.cells?_some h1
      obtain ⟨pa, ta, pc, tc, f, rfl, hF⟩ := feat_cells hlen h2
      have e0 := hcell 0 (by omega)
      have e1 := hcell 1 (by omega)
      have e2 := hcell 2 (by omega)
      have e3 := hcell 3 (by omega)
      rw [add_add] at e0 e1 e2 e3
      exact ⟨((pa, ta, pc, tc), f), ⟨by simpa using e0, by simpa using e1, by simpa using e2, by simpa using e3⟩, hF⟩
    obtain ⟨q, hq⟩ := choose_lt each
    have hg : ∀ i, i < len → fg ((List.range len).map fun i => (q i).2) i = (q i).2 := fun i hil => by simp [fg, hil]
    unfold maxLen at hm
    refine ⟨some a, cap, (List.range len).map fun i => (q i).2, by simp, ?_, by simp; omega, ?_⟩
    · intro i hi'
      have hil : i < len := by simpa using hi'
      obtain ⟨⟨h0, h1, h2, h3⟩, hF⟩ := hq i hil
      obtain ⟨b, off, spot⟩ := a
      have hspot : spot = none := by simpa [Addr.add] using World.cell?_spot (hq 0 (by omega)).1.1
      subst hspot
      rw [add_plain] at h0 h1 h2 h3
      unfold fid fkd fps fts
      rw [hg i hil]
      exact ⟨b, off, (q i).1.1, (q i).1.2.2.1, (q i).1.2.1, (q i).1.2.2.2, rfl, World.block_lt_of_cell? W _ h0, h0, by simpa [Nat.add_assoc] using h1, by simpa [Nat.add_assoc] using h2, by simpa [Nat.add_assoc] using h3, hF.pts, hF.tags⟩
    · intro i hi'
      have hil : i < len := by simpa using hi'
      obtain ⟨_, hF⟩ := hq i hil
      unfold fid fps fts
      rw [hg i hil]
      exact ⟨by have := hF.idl; omega, by have := hF.ptl; omega, by have := hF.tgl; omega, hF.txl⟩

end Go.Proofs.YtdfadpejddhbkaaGreat

namespace Go.Proofs.YtdfadpejddhbkaaGreat
set_option linter.unusedVariables false
open Go.ChangeShapes Go.WideShapes Go.ChangeAt Go.RowKit

/-- where the parts of a copied list lie -/
def plOf (fs : List Ft) (ad : Nat → Nat × Nat) (i : Nat) : Pl := ((some ⟨(ad i).1, 0, none⟩, (fps fs i).length), (some ⟨(ad i).2, 0, none⟩, (fts fs i).length))

theorem lies_of_row {fs : List Ft} {ad : Nat → Nat × Nat} {w : World} {b : Nat} {t : TypeId} (h : w.rowIs b t (fs.length * 4) (featCell fs ad)) (hp : Parts w b fs ad fs.length) : Lies w b 0 fs (plOf fs ad) ∧ Sep b fs.length (plOf fs ad) := by
  refine ⟨⟨fun i hi => ?_, fun i hi => ⟨h.frozen _, h.frozen _⟩, fun i hi => ⟨PtsAt.of_row (hp i hi).1, Soft.of_row (hp i hi).1⟩, fun i hi => ⟨TagsAt.of_row (hp i hi).2.1, Soft.of_row (hp i hi).2.1⟩, h.lt⟩, ?_⟩
  · obtain ⟨b', off', pa, pc, ta, tc, e, _, h1, h2, h3, h4, _⟩ := FeatsAt.of_row h hp i hi
    obtain ⟨rfl, rfl⟩ : b = b' ∧ 0 = off' := by simpa using e
    refine ⟨h1, h2, ?_, ?_⟩
    · have := h.cell (i := i * 4 + 2) (by omega)
      rw [Nat.zero_add, this]
      unfold featCell plOf
      rw [if_neg (by omega), if_neg (by omega), if_pos (by omega), show (i * 4 + 2) / 4 = i by omega]
    · have := h.cell (i := i * 4 + 3) (by omega)
      rw [Nat.zero_add, this]
      unfold featCell plOf
      rw [if_neg (by omega), if_neg (by omega), if_neg (by omega), show (i * 4 + 3) / 4 = i by omega]
  · refine ⟨fun i hi => ?_, fun i hi => ?_, fun i j hi hj hne => ?_⟩
    · obtain ⟨_, _, h3, h4, _⟩ := hp i hi
      constructor <;> (simp [plOf, blk]; omega)
    · obtain ⟨_, _, _, _, h5, _⟩ := hp i hi
      intro x hx e
      simp only [plOf, blk, Option.map_some, Option.some.injEq] at hx e
      omega
    · have key : ∀ i j, j < fs.length → i < j → (ad i).1 ≠ (ad j).1 ∧ (ad i).1 ≠ (ad j).2 ∧ (ad i).2 ≠ (ad j).1 ∧ (ad i).2 ≠ (ad j).2 := fun i j hj hij => by
        obtain ⟨_, _, _, _, _, h6⟩ := hp j hj
        have := h6 i hij
        omega
      have kk : (ad i).1 ≠ (ad j).1 ∧ (ad i).1 ≠ (ad j).2 ∧ (ad i).2 ≠ (ad j).1 ∧ (ad i).2 ≠ (ad j).2 := by
        rcases Nat.lt_or_gt_of_ne hne with h | h
        · exact key i j hj h
        · have := key j i hi h
          omega
      refine ⟨fun x hx e => ?_, fun x hx e => ?_, fun x hx e => ?_, fun x hx e => ?_⟩ <;> (simp only [plOf, blk, Option.map_some, Option.some.injEq] at hx e; omega)

theorem blocks_of_row {fs : List Ft} {ad : Nat → Nat × Nat} {w0 w : World} {b : Nat} {t : TypeId} (h : w.rowIs b t (fs.length * 4) (featCell fs ad)) (hp : Parts w b fs ad fs.length) (hb : w0.heap.size ≤ b) : ∀ x, blocksOf b fs.length (plOf fs ad) x → w0.heap.size ≤ x ∧ x < w.heap.size := by
  rintro x (rfl | ⟨i, hi, e | e⟩)
  · exact ⟨hb, h.lt⟩
  · obtain ⟨h1, _, h3, _⟩ := hp i hi
    have := h1.lt
    simp only [plOf, blk, Option.map_some, Option.some.injEq] at e
    omega
  · obtain ⟨_, h2, _, h4, _⟩ := hp i hi
    have := h2.lt
    simp only [plOf, blk, Option.map_some, Option.some.injEq] at e
    omega

theorem Box4.turned {w w' : World} {b : Nat} {v0 v1 v2 v3 : Value} {S : Nat → Prop} (h : Box4 w b v0 v1 v2 v3) (ht : Turned w w' S) (hn : ¬ S b) : Box4 w' b v0 v1 v2 v3 :=
  ⟨ht.cell h.1 hn, ht.cell h.2.1 hn, ht.cell h.2.2.1 hn, ht.cell h.2.2.2 hn⟩

theorem Turned.of_two {w w' : World} {a c : Option Addr} (h : Grown2 w w' a c) : Turned w w' (fun x => blk a = some x ∨ blk c = some x) := by
  obtain ⟨u, h1, h2⟩ := h
  exact (Turned.of_grown h1 fun x hx => .inl hx).trans (Turned.of_grown h2 fun x hx => .inr hx)

end Go.Proofs.YtdfadpejddhbkaaGreat

namespace Go.Proofs.YtdfadpejddhbkaaGreat
set_option linter.unusedVariables false
open Go.ChangeShapes Go.WideShapes Go.ChangeAt Go.RowKit

/-- where the two rows of a version lie, and those of its things -/
abbrev PlM := Nat × Nat × (Nat → Nat × Nat)

/-- the rows of a version, between two blocks -/
structure CmUp (w : World) (c : Cm) (p : PlM) (lo hi : Nat) : Prop where
  ups : w.rowIs p.1 3 c.1.length (intCell c.1)
  row : w.rowIs p.2.1 33 (c.2.1.length * 4) (featCell c.2.1 p.2.2)
  par : Parts w p.2.1 c.2.1 p.2.2 c.2.1.length
  bot : lo ≤ p.1
  two : p.1 < p.2.1
  top : p.2.1 < hi
  far : ∀ i, i < c.2.1.length → (p.2.2 i).1 < hi ∧ (p.2.2 i).2 < hi

theorem CmUp.kept {w w' : World} {c : Cm} {p : PlM} {lo hi : Nat} (h : CmUp w c p lo hi) (hb : ∀ k, lo ≤ k → k < hi → w'.heap[k]? = w.heap[k]?) : CmUp w' c p lo hi := by
  have h1 := h.bot
  have h2 := h.two
  have h3 := h.top
  exact ⟨h.ups.of_block (hb _ (by omega) (by omega)), h.row.of_block (hb _ (by omega) (by omega)), fun i hi' => by
    obtain ⟨x1, x2, x3, x4, x5⟩ := h.par i hi'
    obtain ⟨y1, y2⟩ := h.far i hi'
    exact ⟨x1.of_block (hb _ (by omega) y1), x2.of_block (hb _ (by omega) y2), x3, x4, x5⟩, h.bot, h.two, h.top, h.far⟩

theorem CmUp.lt {w : World} {c : Cm} {p : PlM} {lo hi : Nat} (h : CmUp w c p lo hi) : lo < hi := by
  have h1 := h.bot
  have h2 := h.two
  have h3 := h.top
  omega

theorem CmUp.hi_mono {w : World} {c : Cm} {p : PlM} {lo hi hi' : Nat} (h : CmUp w c p lo hi) (hl : hi ≤ hi') : CmUp w c p lo hi' :=
  ⟨h.ups, h.row, h.par, h.bot, h.two, Nat.lt_of_lt_of_le h.top hl, fun i hi => ⟨Nat.lt_of_lt_of_le (h.far i hi).1 hl, Nat.lt_of_lt_of_le (h.far i hi).2 hl⟩⟩

theorem CmUp.below {w w' : World} {c : Cm} {p : PlM} {lo hi : Nat} (h : CmUp w c p lo hi) (hb : Below w.heap.size w w') : CmUp w' c p lo hi :=
  ⟨h.ups.of_block (hb.block _ h.ups.lt), h.row.of_block (hb.block _ h.row.lt), h.par.below hb, h.bot, h.two, h.top, h.far⟩

theorem CmUp.set {w : World} {c : Cm} {p : PlM} {lo hi : Nat} (h : CmUp w c p lo hi) (b o : Nat) (v : Value) (hl : b < lo) : CmUp (w.setCell ⟨b, o, none⟩ v) c p lo hi :=
  h.kept fun k hk _ => Below.heap_setCell _ _ _ _ (by show k ≠ b; omega)

/-- the rows of the first versions, one behind the other -/
def LayM (w : World) (cs : List Cm) (ad : Nat → PlM) (cut : Nat → Nat) (k : Nat) : Prop := ∀ i, i < k → CmUp w (mg cs i) (ad i) (cut i) (cut (i + 1))

theorem LayM.cut {w : World} {cs : List Cm} {ad : Nat → PlM} {cut : Nat → Nat} {k : Nat} (h : LayM w cs ad cut k) : ∀ i, i ≤ k → cut 0 ≤ cut i
  | 0, _ => Nat.le_refl _
  | i + 1, hi => by
    have h1 := LayM.cut h i (by omega)
    have h2 := (h i (by omega)).lt
    omega

theorem H0C {w : World} {cs : List Cm} {ad : Nat → PlM} {cut : Nat → Nat} {k b : Nat} (h : LayM w cs ad cut k) (hb : b < cut 0) (i : Nat) (hi : i < k) : b < cut i := by
  have := h.cut i (by omega)
  omega

/-- the places of the parts, as values have them -/
def plC (cs : List Cm) (ad : Nat → PlM) (i : Nat) : Pl2 := ((some ⟨(ad i).1, 0, none⟩, (mg cs i).1.length), (some ⟨(ad i).2.1, 0, none⟩, (mg cs i).2.1.length))

def plmSet (ad : Nat → PlM) (k : Nat) (x : PlM) : Nat → PlM := fun i => if i = k then x else ad i
theorem plmSet_at (ad : Nat → PlM) (k : Nat) (x : PlM) : plmSet ad k x k = x := if_pos rfl
theorem plmSet_lt {ad : Nat → PlM} {k i : Nat} {x : PlM} (h : i < k) : plmSet ad k x i = ad i := if_neg (by omega)
theorem plC_set (cs : List Cm) (ad : Nat → PlM) (k : Nat) (bu bs : Nat) (ads : Nat → Nat × Nat) : pl2Set (plC cs ad) k ((some ⟨bu, 0, none⟩, (mg cs k).1.length), (some ⟨bs, 0, none⟩, (mg cs k).2.1.length)) = plC cs (plmSet ad k (bu, bs, ads)) := by
  funext i
  unfold pl2Set plC plmSet
  by_cases e : i = k
  · subst e; simp
  · simp [e]

def cutSet (cut : Nat → Nat) (k x y : Nat) : Nat → Nat := fun i => if i = k then x else if i = k + 1 then y else cut i
theorem cutSet_at (cut : Nat → Nat) (k x y : Nat) : cutSet cut k x y k = x := if_pos rfl
theorem cutSet_next (cut : Nat → Nat) (k x y : Nat) : cutSet cut k x y (k + 1) = y := by unfold cutSet; rw [if_neg (by omega), if_pos rfl]
theorem cutSet_lt {cut : Nat → Nat} {k x y i : Nat} (h : i < k) : cutSet cut k x y i = cut i := by unfold cutSet; rw [if_neg (by omega), if_neg (by omega)]

/-- what 'toCommit' answers -/
def NewCommitL (w : World) (c : Cm) (e : Ending) (w' : World) : Prop :=
  ∃ bu bs ad, e = .returned (.agg #[.slice (some ⟨bu, 0, none⟩) c.1.length c.1.length, .slice (some ⟨bs, 0, none⟩) c.2.1.length c.2.1.length, .string c.2.2]) ∧ w'.rowIs bu 3 c.1.length (intCell c.1) ∧
    w'.rowIs bs 33 (c.2.1.length * 4) (featCell c.2.1 ad) ∧ Parts w' bs c.2.1 ad c.2.1.length ∧ w.heap.size + 3 ≤ bu ∧ bu < bs ∧ Below w.heap.size w w'

/-- what 'toCommitS' answers -/
def NewCommitsL (w : World) (cs : List Cm) (e : Ending) (w' : World) : Prop :=
  ∃ b ad cut, e = .returned (.slice (some ⟨b, 0, none⟩) cs.length cs.length) ∧ w'.rowIs b 54 (cs.length * 3) (commitCell cs (plC cs ad)) ∧ LayM w' cs ad cut cs.length ∧ w.heap.size ≤ b ∧ b < cut 0 ∧ cut cs.length ≤ w'.heap.size ∧ Below w.heap.size w w'

set_option maxRecDepth 100000 in
set_option maxHeartbeats 4000000 in
theorem toCommit_lay (c : Cm) (ua sa : Option Addr) (uc sc : Nat) (w : World) (hi : IntsAt w ua c.1) (hf : FeatsAt w sa c.2.1) (hl : CmLen c 1048576) :
    Calls Tryz.prog 140 #[.agg #[.slice ua c.1.length uc, .slice sa c.2.1.length sc, .string c.2.2]] w (NewCommitL w c) := by
  obtain ⟨l1, l2, l3, l4⟩ := hl
  have HP := Lib.hid hi
  have HT := Lib.hid hf
  have HL := Lib.hid l3
  clear hi hf l3
  have A3 : Hid (∀ o o' o'', Below w.heap.size w (((w.alloc o).alloc o').alloc o'')) := fun o o' o'' => (((Below.refl _ _).alloc (Nat.le_refl _) _).alloc (by simp) _).alloc (by simp; omega) _
  go_enter Tryz.func140, Tryz.ntmps140
  go_wp2_with fail
  refine (toIntS_any _ _ _ _ (HP.out.below (A3.out _ _ _)) (by omega)).mono ?_
  rintro e w1 ⟨b, rfl, hrow, hb, hbel⟩
  have B1 : Hid (Below w.heap.size w w1) := (A3.out _ _ _).trans (hbel.mono (by simp; omega))
  obtain ⟨hc, hf⟩ := bcell hbel
  have hz := hbel.size
  simp only [World.size_alloc] at hz hb
  have hbl := hrow.lt
  have U1 := Lib.hid hrow
  clear hrow hbel
  have d0 : w1.cell? ⟨w.heap.size + 1 + 1, 0, none⟩ = some (.slice none 0 0) := by rw [hc _ _ (by simp)]; simp [go_sem]
  have d1 : w1.cell? ⟨w.heap.size + 1 + 1, 1, none⟩ = some (.slice none 0 0) := by rw [hc _ _ (by simp)]; simp [go_sem]
  have d2 : w1.cell? ⟨w.heap.size + 1 + 1, 2, none⟩ = some (.string ⟨#[]⟩) := by rw [hc _ _ (by simp)]; simp [go_sem]
  have f0 : w1.frozen? ⟨w.heap.size + 1 + 1, 0, none⟩ = false := by rw [hf _ _ (by simp)]; simp [go_sem]
  have f1 : w1.frozen? ⟨w.heap.size + 1 + 1, 1, none⟩ = false := by rw [hf _ _ (by simp)]; simp [go_sem]
  have f2 : w1.frozen? ⟨w.heap.size + 1 + 1, 2, none⟩ = false := by rw [hf _ _ (by simp)]; simp [go_sem]
  have g0 : w1.cell? ⟨w.heap.size + 1, 0, none⟩ = some (.slice none 0 0) := by rw [hc _ _ (by simp)]; simp [go_sem]
  have g1 : w1.cell? ⟨w.heap.size + 1, 1, none⟩ = some (.slice none 0 0) := by rw [hc _ _ (by simp)]; simp [go_sem]
  have g2 : w1.cell? ⟨w.heap.size + 1, 2, none⟩ = some (.string ⟨#[]⟩) := by rw [hc _ _ (by simp)]; simp [go_sem]
  have k0 : w1.frozen? ⟨w.heap.size + 1, 0, none⟩ = false := by rw [hf _ _ (by simp)]; simp [go_sem]
  have k1 : w1.frozen? ⟨w.heap.size + 1, 1, none⟩ = false := by rw [hf _ _ (by simp)]; simp [go_sem]
  have k2 : w1.frozen? ⟨w.heap.size + 1, 2, none⟩ = false := by rw [hf _ _ (by simp)]; simp [go_sem]
  have a1 : w1.cell? ⟨w.heap.size, 1, none⟩ = some (.slice sa c.2.1.length sc) := by rw [hc _ _ (by simp; omega)]; simp [go_sem]
  have a2 : w1.cell? ⟨w.heap.size, 2, none⟩ = some (.string c.2.2) := by rw [hc _ _ (by simp; omega)]; simp [go_sem]
  clear hc hf
  go_wp2_with fail
  have B2 : Hid (Below w.heap.size w (w1.setCell ⟨w.heap.size + 1 + 1, 0, none⟩ (.slice (some ⟨b, 0, none⟩) c.1.length c.1.length))) := B1.out.setCell (by simp; omega) _
  refine (toFeatS_any _ _ _ _ (HT.out.below B2.out) (by omega) HL.out).mono ?_
  rintro e w2 ⟨b', ad, rfl, hrow2, hpar2, hb2, hbel2⟩
  have U2 : Hid (w2.rowIs b 3 c.1.length (intCell c.1)) := (U1.out.setOther (by simp; omega) _).of_block (hbel2.block _ (by simpa [World.setCell] using hbl))
  have hb2' : w.heap.size + 3 ≤ b' := by simp [World.setCell] at hb2; omega
  have V2 := Lib.hid hrow2
  have V3 := Lib.hid hpar2
  have hbb : b < b' := by simp [World.setCell] at hb2; omega
  have B3 : Hid (Below w.heap.size w w2) := B2.out.trans (hbel2.mono B2.out.size)
  have cc : ∀ (b o : Nat), b < w1.heap.size → w2.cell? ⟨b, o, none⟩ = _ := fun b o hb => hbel2.cell (p := ⟨b, o, none⟩) (by simpa [World.setCell] using hb)
  have ff : ∀ (b o : Nat), b < w1.heap.size → w2.frozen? ⟨b, o, none⟩ = _ := fun b o hb => hbel2.frozen (p := ⟨b, o, none⟩) (by simpa [World.setCell] using hb)
  replace d0 : w2.cell? ⟨w.heap.size + 1 + 1, 0, none⟩ = some (.slice (some ⟨b, 0, none⟩) c.1.length c.1.length) := by rw [cc _ _ (by omega)]; simp [go_sem, d0]
  replace d1 : w2.cell? ⟨w.heap.size + 1 + 1, 1, none⟩ = some (.slice none 0 0) := by rw [cc _ _ (by omega)]; simp [go_sem, d1]
  replace d2 : w2.cell? ⟨w.heap.size + 1 + 1, 2, none⟩ = some (.string ⟨#[]⟩) := by rw [cc _ _ (by omega)]; simp [go_sem, d2]
  replace f1 : w2.frozen? ⟨w.heap.size + 1 + 1, 1, none⟩ = false := by rw [ff _ _ (by omega)]; simp [go_sem, f1]
  replace f2 : w2.frozen? ⟨w.heap.size + 1 + 1, 2, none⟩ = false := by rw [ff _ _ (by omega)]; simp [go_sem, f2]
  replace g0 : w2.cell? ⟨w.heap.size + 1, 0, none⟩ = some (.slice none 0 0) := by rw [cc _ _ (by omega)]; simp [go_sem, g0]
  replace g1 : w2.cell? ⟨w.heap.size + 1, 1, none⟩ = some (.slice none 0 0) := by rw [cc _ _ (by omega)]; simp [go_sem, g1]
  replace g2 : w2.cell? ⟨w.heap.size + 1, 2, none⟩ = some (.string ⟨#[]⟩) := by rw [cc _ _ (by omega)]; simp [go_sem, g2]
  replace k0 : w2.frozen? ⟨w.heap.size + 1, 0, none⟩ = false := by rw [ff _ _ (by omega)]; simp [go_sem, k0]
  replace k1 : w2.frozen? ⟨w.heap.size + 1, 1, none⟩ = false := by rw [ff _ _ (by omega)]; simp [go_sem, k1]
  replace k2 : w2.frozen? ⟨w.heap.size + 1, 2, none⟩ = false := by rw [ff _ _ (by omega)]; simp [go_sem, k2]
  replace a2 : w2.cell? ⟨w.heap.size, 2, none⟩ = some (.string c.2.2) := by rw [cc _ _ (by omega)]; simp [go_sem, a2]
  clear hbel2 hrow2 hpar2 hb2 cc ff f0 a1
  go_wp2
  refine bodyPost_ret (v := .agg #[.slice (some ⟨b, 0, none⟩) c.1.length c.1.length, .slice (some ⟨b', 0, none⟩) c.2.1.length c.2.1.length, .string c.2.2]) (by simp [results, Tryz.results140, go_sem, g0, g1, g2]) rfl ?_
  refine ⟨b, b', ad, rfl, ?_, ?_, ?_, by omega, hbb, ?_⟩
  · iterate 5 refine World.rowIs.setOther ?_ (by simp; omega) _
    exact U2.out
  · iterate 5 refine World.rowIs.setOther ?_ (by simp; omega) _
    exact V2.out
  · intro i hi
    obtain ⟨x1, x2, x3, x4, x5⟩ := V3.out i hi
    refine ⟨?_, ?_, x3, x4, x5⟩
    · iterate 5 refine World.rowIs.setOther ?_ (by simp; omega) _
      exact x1
    · iterate 5 refine World.rowIs.setOther ?_ (by simp; omega) _
      exact x2
  · exact ((((B3.out.setCell (by simp; omega) _).setCell (by simp; omega) _).setCell (by simp) _).setCell (by simp) _).setCell (by simp) _

set_option maxRecDepth 100000 in
set_option maxHeartbeats 4000000 in
theorem toCommitS_lay (a : Option Addr) (cap : Nat) (cs : List Cm) (w : World) (hp : CommitsAt w a cs) (hlen : cs.length ≤ 1048576) (hl : CmsLen cs 1048576) :
    Calls Tryz.prog 93 #[.slice a cs.length cap] w (NewCommitsL w cs) := by
  obtain ⟨i0, hi, hz0, hz1, hz2⟩ := info_parts infoCommit
  have hmk : ∀ u : World, (Instr.makeSlice 43 (.int .i64 (cs.length : Int)) (.int .i64 (cs.length : Int))).run Tryz.prog u =
      .ok (.slice (some ⟨u.heap.size, 0, none⟩) cs.length cs.length) (u.alloc (.cells (madeCells #[.slice none 0 0, .slice none 0 0, .string .empty] (cs.length * 3)) 54)) := fun u => by
    have h := run_make (P := Tryz.prog) u 43 54 i0 (.agg #[.slice none 0 0, .slice none 0 0, .string .empty]) Tryz.underlying43 hi hz0 .i64 .i64 (cs.length : Int) (cs.length : Int) (by omega) (Int.le_refl _) (by rw [hz2]; omega) (by omega)
    simpa [hz1, Value.cells] using h
  have H0 := Lib.hid hp
  have HL := Lib.hid hl
  clear hp hz0 hz1 hz2 hi hl
  go_enter Tryz.func93, Tryz.ntmps93
  go_wp2
  clear hmk
  go_loopw [4] (fun i wr => ∃ (k : Nat) (ad : Nat → PlM) (cut : Nat → Nat), k ≤ cs.length ∧ i = .int .i64 k ∧ wr.rowIs w.heap.size 54 (cs.length * 3) (filledC cs (plC cs ad) k) ∧ LayM wr cs ad cut k ∧ w.heap.size < cut 0 ∧ cut k ≤ wr.heap.size ∧ Below w.heap.size w wr) (fun i _ => cs.length - (intOf i).toNat)
  case atStart =>
    refine ⟨0, fun _ => (0, 0, fun _ => (0, 0)), fun _ => w.heap.size + 1, Nat.zero_le _, rfl, (made_rowC w cs.length _).congr fun i _ => ?_, fun i hi => absurd hi (Nat.not_lt_zero _), Nat.lt_succ_self _, by simp, (Below.refl _ _).alloc (Nat.le_refl _) _⟩
    unfold filledC
    rw [if_neg (by omega)]
  case round =>
    obtain ⟨k, ad, cut, hk, rfl, hrow, hpar, hc0, hck, hbel⟩ := hrel
    by_cases hlt : k < cs.length
    · obtain ⟨b, off, ua, uc, sa, sc, rfl, hx⟩ := H0.out k hlt
      obtain ⟨hb, c0, c1, c2, hii, hff⟩ := hx.below hbel
      have HR := Lib.hid hrow
      have HB := Lib.hid hbel
      have HPar := Lib.hid hpar
      have HII := Lib.hid hii
      have HFF := Lib.hid hff
      have hwlt := hrow.lt
      clear hrow hbel hpar hii hff hx
      have hsz := HB.out.size
      go_wp2_with fail
      refine (toCommit_lay _ _ _ _ _ _ HII.out HFF.out (HL.out k hlt)).mono ?_
      rintro e w1 ⟨bu, bs, ads, rfl, hU, hV, hP, hlo, hlt2, hb1⟩
      have hrow1 : w1.rowIs w.heap.size 54 (cs.length * 3) (filledC cs (plC cs ad) k) := HR.out.of_block (hb1.block _ HR.out.lt)
      have hf1 := hrow1.frozen (k * 3)
      have hf2 := hrow1.frozen (k * 3 + 1)
      have hf3 := hrow1.frozen (k * 3 + 2)
      have hd1 := hrow1.cell (i := k * 3) (by omega)
      have hd2 := hrow1.cell (i := k * 3 + 1) (by omega)
      have hd3 := hrow1.cell (i := k * 3 + 2) (by omega)
      have HR1 := Lib.hid hrow1
      have HB1 := Lib.hid hb1
      have hsz1 := hb1.size
      have HP1 : Hid (LayM w1 cs (plmSet ad k (bu, bs, ads)) (cutSet cut k wr.heap.size w1.heap.size) (k + 1)) := by
        intro i hi
        by_cases e : i = k
        · subst e
          rw [plmSet_at, cutSet_at, cutSet_next]
          exact ⟨hU, hV, hP, by omega, hlt2, hV.lt, fun i hi => ⟨(hP i hi).1.lt, (hP i hi).2.1.lt⟩⟩
        · rw [plmSet_lt (by omega)]
          have h1 := (HPar.out i (by omega)).below hb1
          by_cases e2 : i + 1 = k
          · rw [e2, cutSet_at, cutSet_lt (by omega)]
            refine h1.hi_mono ?_
            rw [e2]
            exact hck
          · rw [cutSet_lt (by omega), cutSet_lt (by omega)]
            exact h1
      have hcut0 : w.heap.size < cutSet cut k wr.heap.size w1.heap.size 0 := by
        by_cases e : k = 0
        · subst e; rw [cutSet_at]; exact hwlt
        · rw [cutSet_lt (by omega)]; exact hc0
      clear hrow1 hb1 hU hV hP c0 c1 c2
      go_wp2
      go_roundw
      case rel =>
        refine ⟨k + 1, plmSet ad k (bu, bs, ads), cutSet cut k wr.heap.size w1.heap.size, by omega, by go_num, (((HR1.out.set (k * 3) _).set (k * 3 + 1) _).set (k * 3 + 2) _).congr fun j _ => (by rw [← plC_set]; exact filledC_step cs (plC cs ad) k j ((some ⟨bu, 0, none⟩, (mg cs k).1.length), (some ⟨bs, 0, none⟩, (mg cs k).2.1.length))), fun i hi => (((HP1.out i hi).set w.heap.size _ _ (H0C HP1.out hcut0 i hi)).set w.heap.size _ _ (H0C HP1.out hcut0 i hi)).set w.heap.size _ _ (H0C HP1.out hcut0 i hi), hcut0, by rw [cutSet_next]; simp [World.setCell], ?_⟩
        exact (((HB.out.trans (HB1.out.mono hsz)).setCell (Nat.le_refl _) _).setCell (Nat.le_refl _) _).setCell (Nat.le_refl _) _
      case measure => simp [intOf]; omega
    · have HR := Lib.hid hrow
      have HB := Lib.hid hbel
      have HPar := Lib.hid hpar
      clear hrow hbel hpar
      go_wp2
      go_ret
      obtain rfl : k = cs.length := by omega
      exact ⟨w.heap.size, ad, cut, rfl, HR.out.congr fun j hj => (by unfold filledC; rw [if_pos hj]), HPar.out, Nat.le_refl _, hc0, hck, HB.out⟩
end Go.Proofs.YtdfadpejddhbkaaGreat

namespace Go.Proofs.YtdfadpejddhbkaaGreat
set_option linter.unusedVariables false
open Go.ChangeShapes Go.WideShapes Go.ChangeAt Go.RowKit Go.Deep Go.Joins

theorem cells_lcommit : Tryz.prog.cellsOf 171 = 3 := by kernel_rfl
theorem cells_lhead : Tryz.prog.cellsOf 173 = 2 := by kernel_rfl
theorem cells_lrepo : Tryz.prog.cellsOf 63 = 2 := by kernel_rfl
theorem cells_ints : Tryz.prog.cellsOf 49 = 1 := by kernel_rfl
theorem cells_lfeats : Tryz.prog.cellsOf 64 = 1 := by kernel_rfl
theorem cells_lcommits : Tryz.prog.cellsOf 60 = 1 := by kernel_rfl
theorem cells_lheads : Tryz.prog.cellsOf 61 = 1 := by kernel_rfl

set_option maxRecDepth 100000 in
/-- a row of numbers that came in -/
theorem open_ints {H : Type} {enc : TypeId × Value → H} {W : World} {base : Nat} {spare : Nat → Bool} {held : Bool} {fuel : Nat} {v : Value} {x : DataW H × List MemPlace}
    (h : DataW.trod enc Tryz.prog W base spare held fuel 49 [v] = some x) :
    ∃ (a : Option Addr) (cap : Nat) (is : List Int), v = .slice a is.length cap ∧ IntsAt W a is ∧ is.length ≤ maxLen := by
  rcases open_slice Tryz.underlying49 h with ⟨hcs, _⟩ | ⟨a, len, cap, m, n, D, Pl, hcs, hb, hl, hm, hmm, hx, hi⟩
  · obtain rfl : v = .slice none 0 0 := by simpa using hcs
    exact ⟨none, 0, [], rfl, IntsAt.nil _ _, Nat.zero_le _⟩
  · obtain rfl : v = .slice (some a) len cap := by simpa using hcs
    have hlm : len ≤ m := by rw [hmm]; split <;> omega
    have each : ∀ i, i < len → ∃ q : Int, W.cell? (a.add i) = some (.int .i64 q) := by
      intro i hil
      obtain ⟨cs', h1, h2⟩ := hi i (by omega)
      rw [cells_int, Nat.mul_one] at h1
      obtain ⟨_, hlen, hcell⟩ := World.cells?_some h1
      obtain ⟨k, e1, _, _⟩ := DataW.trod_int Tryz.underlying3 h2
      have e0 := hcell 0 (by omega)
      subst e1
      refine ⟨k, ?_⟩
      simpa [Addr.add] using e0
    obtain ⟨q, hq⟩ := choose_lt each
    refine ⟨some a, cap, (List.range len).map q, by simp, ?_, by simp; omega⟩
    intro i hi'
    have hil : i < len := by simpa using hi'
    have h0 := hq i hil
    obtain ⟨b, off, spot⟩ := a
    have hspot : spot = none := by simpa [Addr.add] using World.cell?_spot (hq 0 (by omega))
    subst hspot
    rw [add_plain] at h0
    have hpx : ix ((List.range len).map q) i = q i := by simp [ix, hil]
    rw [hpx]
    exact ⟨b, off, rfl, World.block_lt_of_cell? W _ h0, h0⟩

set_option maxRecDepth 100000 in
/-- a list of things of the laws within another -/
theorem open_featsL {H : Type} {enc : TypeId × Value → H} {W : World} {base : Nat} {spare : Nat → Bool} {held : Bool} {fuel : Nat} {v : Value} {x : DataW H × List MemPlace}
    (hf : DataW.trod enc Tryz.prog W base spare held fuel 64 [v] = some x) :
    ∃ (a : Option Addr) (cap : Nat) (fs : List Ft), v = .slice a fs.length cap ∧ FeatsIn W a fs := by
  rcases open_slice Tryz.underlying64 hf with ⟨hcs, _⟩ | ⟨a, len, cap, m, n, D, Pl, hcs, hb, hl, hm, hmm, hx, hi⟩
  · obtain rfl : v = .slice none 0 0 := by simpa using hcs
    exact ⟨none, 0, [], rfl, FeatsAt.nil _ _, Nat.zero_le _, fun j h => absurd h (Nat.not_lt_zero _)⟩
  · obtain rfl : v = .slice (some a) len cap := by simpa using hcs
    have hlm : len ≤ m := by rw [hmm]; split <;> omega
    have each : ∀ i, i < len → ∃ q : (Option Addr × Option Addr × Nat × Nat) × Ft, (W.cell? (a.add (i * 4)) = some (.string q.2.1) ∧ W.cell? (a.add (i * 4 + 1)) = some (.int .i64 q.2.2.1) ∧ W.cell? (a.add (i * 4 + 2)) = some (.slice q.1.1 q.2.2.2.1.length q.1.2.2.1) ∧ W.cell? (a.add (i * 4 + 3)) = some (.slice q.1.2.1 q.2.2.2.2.length q.1.2.2.2)) ∧ FeatIn W q.2.1 q.1.1 q.2.2.2.1 q.1.2.1 q.2.2.2.2 := by
      intro i hil
      obtain ⟨cs', h1, h2⟩ := hi i (by omega)
      rw [cells_lfeat] at h1
      obtain ⟨_, hlen, hcell⟩ := World.cells?_some h1
      obtain ⟨pa, ta, pc, tc, f, rfl, hF⟩ := feat_cells hlen h2
      have e0 := hcell 0 (by omega)
      have e1 := hcell 1 (by omega)
      have e2 := hcell 2 (by omega)
      have e3 := hcell 3 (by omega)
      rw [add_add] at e0 e1 e2 e3
      exact ⟨((pa, ta, pc, tc), f), ⟨by simpa using e0, by simpa using e1, by simpa using e2, by simpa using e3⟩, hF⟩
    obtain ⟨q, hq⟩ := choose_lt each
    have hg : ∀ i, i < len → fg ((List.range len).map fun i => (q i).2) i = (q i).2 := fun i hil => by simp [fg, hil]
    unfold maxLen at hm
    refine ⟨some a, cap, (List.range len).map fun i => (q i).2, by simp, ?_, by simp; omega, ?_⟩
    · intro i hi'
      have hil : i < len := by simpa using hi'
      obtain ⟨⟨h0, h1, h2, h3⟩, hF⟩ := hq i hil
      obtain ⟨b, off, spot⟩ := a
      have hspot : spot = none := by simpa [Addr.add] using World.cell?_spot (hq 0 (by omega)).1.1
      subst hspot
      rw [add_plain] at h0 h1 h2 h3
      unfold fid fkd fps fts
      rw [hg i hil]
      exact ⟨b, off, (q i).1.1, (q i).1.2.2.1, (q i).1.2.1, (q i).1.2.2.2, rfl, World.block_lt_of_cell? W _ h0, h0, by simpa [Nat.add_assoc] using h1, by simpa [Nat.add_assoc] using h2, by simpa [Nat.add_assoc] using h3, hF.pts, hF.tags⟩
    · intro i hi'
      have hil : i < len := by simpa using hi'
      obtain ⟨_, hF⟩ := hq i hil
      unfold fid fps fts
      rw [hg i hil]
      exact ⟨by have := hF.idl; omega, by have := hF.ptl; omega, by have := hF.tgl; omega, hF.txl⟩

set_option maxRecDepth 100000 in
/-- the three cells of a version of the laws -/
theorem commit_cells {H : Type} {enc : TypeId × Value → H} {W : World} {base : Nat} {spare : Nat → Bool} {held : Bool} {fuel : Nat} {cs : List Value} {x : DataW H × List MemPlace}
    (hl : cs.length = 3) (hf : DataW.trod enc Tryz.prog W base spare held fuel 171 cs = some x) :
    ∃ (ua sa : Option Addr) (uc sc : Nat) (c : Cm), cs = [.slice ua c.1.length uc, .slice sa c.2.1.length sc, .string c.2.2] ∧ IntsAt W ua c.1 ∧ FeatsAt W sa c.2.1 ∧ CmLen c 9223372036854775807 := by
  match cs, hl with
  | [c0, c1, c2], _ =>
  obtain ⟨y0, y1, y2, n, hx, _, h0, h1, h2⟩ := trod_struct3 Tryz.underlying171 hf
  simp only [cells_ints] at h0
  simp only [cells_lfeats] at h1
  simp only [cells_string] at h2
  obtain ⟨id, e2, _, w0⟩ := DataW.trod_string Tryz.underlying9 h2
  obtain ⟨ua, uc, is, e0, hi, hm⟩ := open_ints h0
  obtain ⟨sa, sc, fs, e1, hF⟩ := open_featsL h1
  simp at e2
  subst e0 e1 e2
  unfold maxLen at w0 hm
  have := hF.len
  exact ⟨ua, sa, uc, sc, (is, fs, id), rfl, hi, hF.reads, by show (is.length : Int) ≤ _; omega, by show (fs.length : Int) ≤ _; omega, hF.lens, by show (id.size : Int) ≤ _; omega⟩

set_option maxRecDepth 100000 in
/-- a list of versions of the laws that came in -/
theorem open_commits {H : Type} {enc : TypeId × Value → H} {W : World} {base : Nat} {spare : Nat → Bool} {held : Bool} {fuel : Nat} {v : Value} {x : DataW H × List MemPlace}
    (hf : DataW.trod enc Tryz.prog W base spare held fuel 60 [v] = some x) :
    ∃ (a : Option Addr) (cap : Nat) (cs : List Cm), v = .slice a cs.length cap ∧ CommitsIn W a cs := by
  rcases open_slice Tryz.underlying60 hf with ⟨hcs, _⟩ | ⟨a, len, cap, m, n, D, Pl, hcs, hb, hl, hm, hmm, hx, hi⟩
  · obtain rfl : v = .slice none 0 0 := by simpa using hcs
    exact ⟨none, 0, [], rfl, CommitsAt.nil _ _, Nat.zero_le _, fun j h => absurd h (Nat.not_lt_zero _)⟩
  · obtain rfl : v = .slice (some a) len cap := by simpa using hcs
    have hlm : len ≤ m := by rw [hmm]; split <;> omega
    have each : ∀ i, i < len → ∃ q : Pl2 × Cm, (W.cell? (a.add (i * 3)) = some (.slice q.1.1.1 q.2.1.length q.1.1.2) ∧ W.cell? (a.add (i * 3 + 1)) = some (.slice q.1.2.1 q.2.2.1.length q.1.2.2) ∧ W.cell? (a.add (i * 3 + 2)) = some (.string q.2.2.2)) ∧ IntsAt W q.1.1.1 q.2.1 ∧ FeatsAt W q.1.2.1 q.2.2.1 ∧ CmLen q.2 9223372036854775807 := by
      intro i hil
      obtain ⟨cs', h1, h2⟩ := hi i (by omega)
      rw [cells_lcommit] at h1
      obtain ⟨_, hlen, hcell⟩ := World.cells?_some h1
      obtain ⟨ua, sa, uc, sc, c, rfl, hI, hF, hL⟩ := commit_cells hlen h2
      have e0 := hcell 0 (by omega)
      have e1 := hcell 1 (by omega)
      have e2 := hcell 2 (by omega)
      rw [add_add] at e0 e1 e2
      exact ⟨(((ua, uc), (sa, sc)), c), ⟨by simpa using e0, by simpa using e1, by simpa using e2⟩, hI, hF, hL⟩
    obtain ⟨q, hq⟩ := choose_lt each
    have hg : ∀ i, i < len → mg ((List.range len).map fun i => (q i).2) i = (q i).2 := fun i hil => by simp [mg, hil]
    unfold maxLen at hm
    refine ⟨some a, cap, (List.range len).map fun i => (q i).2, by simp, ?_, by simp; omega, ?_⟩
    · intro i hi'
      have hil : i < len := by simpa using hi'
      obtain ⟨⟨h0, h1, h2⟩, hI, hF, hL⟩ := hq i hil
      obtain ⟨b, off, spot⟩ := a
      have hspot : spot = none := by simpa [Addr.add] using World.cell?_spot (hq 0 (by omega)).1.1
      subst hspot
      rw [add_plain] at h0 h1 h2
      rw [hg i hil]
      exact ⟨b, off, (q i).1.1.1, (q i).1.1.2, (q i).1.2.1, (q i).1.2.2, rfl, World.block_lt_of_cell? W _ h0, h0, by simpa [Nat.add_assoc] using h1, by simpa [Nat.add_assoc] using h2, hI, hF⟩
    · intro i hi'
      have hil : i < len := by simpa using hi'
      obtain ⟨_, _, _, hL⟩ := hq i hil
      rw [hg i hil]
      exact hL

/-- a list of branches of the laws that came in -/
structure HeadsIn (w : World) (a : Option Addr) (hs : List Hd) : Prop where
  reads : HeadsAt w a hs
  len : hs.length ≤ 9223372036854775807
  lens : HeadsLen hs 9223372036854775807

theorem HeadsIn.below {w w' : World} {a : Option Addr} {hs : List Hd} (h : HeadsIn w a hs) (hb : Below w.heap.size w w') : HeadsIn w' a hs := ⟨h.reads.below hb, h.len, h.lens⟩

theorem open_heads {H : Type} {enc : TypeId × Value → H} {W : World} {base : Nat} {spare : Nat → Bool} {held : Bool} {fuel : Nat} {v : Value} {x : DataW H × List MemPlace}
    (h : DataW.trod enc Tryz.prog W base spare held fuel 61 [v] = some x) :
    ∃ (a : Option Addr) (cap : Nat) (hs : List Hd), v = .slice a hs.length cap ∧ HeadsIn W a hs := by
  rcases open_slice_pairs Tryz.underlying61 Tryz.underlying173 cells_lhead rfl rfl cells_string cells_int h with ⟨hcs, _⟩ | ⟨a, len, cap, m, n, V0, V1, D0, D1, P0, P1, hcs, hb, hl, hm, hmm, hx, hi⟩
  · obtain rfl : v = .slice none 0 0 := by simpa using hcs
    exact ⟨none, 0, [], rfl, HeadsAt.nil _ _, Nat.zero_le _, fun j h => absurd h (Nat.not_lt_zero _)⟩
  · obtain rfl : v = .slice (some a) len cap := by simpa using hcs
    have hlm : len ≤ m := by rw [hmm]; split <;> omega
    have each : ∀ i, i < len → ∃ q : Hd, W.cell? (a.add (i * 2)) = some (.string q.1) ∧ W.cell? (a.add (i * 2 + 1)) = some (.int .i64 q.2) ∧ q.1.size ≤ maxLen := by
      intro i hil
      obtain ⟨h0, h1, t0, t1⟩ := hi i (by omega)
      obtain ⟨x0, e0, _, w0⟩ := DataW.trod_string Tryz.underlying9 t0
      obtain ⟨x1, e1, _, _⟩ := DataW.trod_int Tryz.underlying3 t1
      simp only [List.cons.injEq, and_true] at e0 e1
      exact ⟨(x0, x1), by rw [h0, e0], by rw [h1, e1], w0⟩
    obtain ⟨q, hq⟩ := choose_lt each
    have hpx : ∀ i, i < len → hdn ((List.range len).map q) i = (q i).1 := fun i hil => by simp [hdn, hil]
    have hpy : ∀ i, i < len → hda ((List.range len).map q) i = (q i).2 := fun i hil => by simp [hda, hil]
    unfold maxLen at hm
    refine ⟨some a, cap, (List.range len).map q, by simp, ?_, by simp; omega, ?_⟩
    · intro i hi'
      have hil : i < len := by simpa using hi'
      obtain ⟨h0, h1, _⟩ := hq i hil
      obtain ⟨b, off, spot⟩ := a
      have hspot : spot = none := by simpa [Addr.add] using World.cell?_spot (hq 0 (by omega)).1
      subst hspot
      rw [add_plain] at h0 h1
      rw [hpx i hil, hpy i hil]
      refine ⟨b, off, rfl, World.block_lt_of_cell? W _ h0, ?_, ?_⟩
      · exact h0
      · simpa [Nat.add_assoc] using h1
    · intro i hi'
      have hil : i < len := by simpa using hi'
      obtain ⟨_, _, h2⟩ := hq i hil
      unfold maxLen at h2
      rw [hpx i hil]
      omega

set_option maxRecDepth 100000 in
/-- versions and branches of the laws that came in -/
theorem open_repo {H : Type} {enc : TypeId × Value → H} {W : World} {r : Reach} {b0 base : Nat} {spare : Nat → Bool} {held : Bool} {v : Value} {d : DataW H} {p : List MemPlace}
    (hv : Value.okWide Tryz.prog W r b0 63 v) (h : DataW.Trod enc Tryz.prog W base spare held 63 v d p) :
    ∃ (a : Option Addr) (cap : Nat) (cs : List Cm) (b : Option Addr) (cap' : Nat) (hs : List Hd), v = .agg #[.slice a cs.length cap, .slice b hs.length cap'] ∧ CommitsIn W a cs ∧ HeadsIn W b hs := by
  obtain ⟨c0, c1, y0, y1, m, rfl, _, _, hy0, hy1⟩ := open_agg2 Tryz.underlying63 (by kernel_rfl) cells_lrepo hv h
  obtain ⟨a, cap, cs, rfl, hC⟩ := open_commits hy0
  obtain ⟨b, cap', hs, rfl, hH⟩ := open_heads hy1
  exact ⟨a, cap, cs, b, cap', hs, rfl, hC, hH⟩

end Go.Proofs.YtdfadpejddhbkaaGreat

namespace Go.Proofs.YtdfadpejddhbkaaGreat
set_option linter.unusedVariables false
open Go.ChangeShapes Go.WideShapes Go.ChangeAt Go.RowKit

set_option maxRecDepth 100000 in
set_option maxHeartbeats 2000000 in
theorem equalFunc_any (a a' : Option Addr) (cap cap' : Nat) (fs gs : List Ft) (w : World) (hp : FeatsAt w a fs) (hq : FeatsAt w a' gs) (hl : fs.length ≤ 1048576) (hl' : gs.length ≤ 1048576) (hs : FeatsLen fs 1048576) (hs' : FeatsLen gs 1048576) :
    Calls Tryz.prog 64 #[.slice a fs.length cap, .slice a' gs.length cap', .func (Fn.func 20) #[] #[]] w fun e w' => e = .returned (.bool (fsEq fs gs)) ∧ Below w.heap.size w w' := by
  have HP := Lib.hid hp
  have HQ := Lib.hid hq
  have HS := Lib.hid hs
  have HS' := Lib.hid hs'
  clear hp hq hs hs'
  by_cases he : fs.length = gs.length
  · have HE := Lib.hid he
    rw [← he]
    have h1 : ((fs.length : Int) != (fs.length : Int)) = false := by simp
    clear he
    go_enter Tryz.func64, Tryz.ntmps64
    go_wp2
    go_loopw [7, 8, 9, 17] (fun _ _ _ i wr => ∃ k : Nat, k ≤ fs.length ∧ i = .int .i64 k ∧ Below w.heap.size w wr ∧ ∀ j, j < k → fg fs j = fg gs j) (fun _ _ _ i _ => fs.length - (intOf i).toNat)
    case atStart => exact ⟨0, Nat.zero_le _, rfl, Below.refl _ _, fun j h => absurd h (Nat.not_lt_zero _)⟩
    case round =>
      obtain ⟨k, hk, rfl, hbel, hall⟩ := hrel
      have HA := Lib.hid hall
      have HB := Lib.hid hbel
      have hsz := hbel.size
      clear hall
      by_cases hlt : k < fs.length
      · obtain ⟨b, off, pa, pc, ta, tc, rfl, hb, hc1, hc2, hc3, hc4, hpp, htt⟩ := HP.out k hlt
        obtain ⟨b', off', pa', pc', ta', tc', rfl, hb', hd1, hd2, hd3, hd4, hpp', htt'⟩ := HQ.out k (by have := HE.out; omega)
        obtain ⟨l1, l2, l3, _⟩ := HS.out k hlt
        obtain ⟨m1, m2, m3, _⟩ := HS'.out k (by have := HE.out; omega)
        rw [← hbel.cell (p := ⟨b, _, none⟩) hb] at hc1 hc2 hc3 hc4
        rw [← hbel.cell (p := ⟨b', _, none⟩) hb'] at hd1 hd2 hd3 hd4
        have zb : b < wr.heap.size := by omega
        have zb' : b' < wr.heap.size := by omega
        have D1 := Lib.hid (hpp.below hbel)
        have D2 := Lib.hid (htt.below hbel)
        have D3 := Lib.hid (hpp'.below hbel)
        have D4 := Lib.hid (htt'.below hbel)
        clear hbel hpp htt hpp' htt'
        have hfe := featEq_fg fs gs k k
        have A0 : Hid (∀ o o', Below wr.heap.size wr ((wr.alloc o).alloc o')) := fun o o' => ((Below.refl _ _).alloc (Nat.le_refl _) _).alloc (by simp) _
        go_wp2_with fail
        clear hc1 hc2 hc3 hc4 hd1 hd2 hd3 hd4
        refine (implFeatSame_any _ _ _ _ _ _ _ _ _ _ _ _ _ _ _ _ _ (D1.out.below (A0.out _ _)) (D3.out.below (A0.out _ _)) (D2.out.below (A0.out _ _)) (D4.out.below (A0.out _ _)) (by omega) (by omega) (by omega) (by omega)).mono ?_
        rintro e w1 ⟨rfl, hb2⟩
        have B2 : Hid (Below w.heap.size w w1) := HB.out.trans (((A0.out _ _).trans (hb2.mono (by simp; omega))).mono hsz)
        clear hb2 A0
        by_cases hs : fg fs k = fg gs k
        · rw [hfe, decide_eq_true hs]
          have HG := Lib.hid hs
          clear hs hfe
          go_wp2
          go_roundw
          case rel => exact ⟨k + 1, by omega, by go_num, B2.out, fun j hj => by by_cases e : j = k; (subst e; exact HG.out); exact HA.out j (by omega)⟩
          case measure => simp [intOf]; omega
        · rw [hfe, decide_eq_false hs]
          have HG := Lib.hid (fsEq_ne hs)
          clear hs hfe
          go_wp2
          go_ret
          exact ⟨by rw [HG.out]; rfl, B2.out⟩
      · obtain rfl : k = fs.length := by omega
        have HT := Lib.hid (fsEq_of HE.out HA.out)
        clear hbel
        go_wp2
        go_ret
        exact ⟨by rw [HT.out]; rfl, HB.out⟩
  · have h1 : ((fs.length : Int) != (gs.length : Int)) = true := by simp; omega
    have HT := Lib.hid (fsEq_len he)
    clear he
    go_enter Tryz.func64, Tryz.ntmps64
    go_wp2
    go_ret
    exact ⟨by rw [HT.out]; rfl, Below.refl _ _⟩

set_option maxRecDepth 100000 in
set_option maxHeartbeats 2000000 in
theorem implSheetSame_any (a a' : Option Addr) (cap cap' : Nat) (fs gs : List Ft) (w : World) (hp : FeatsAt w a fs) (hq : FeatsAt w a' gs) (hl : fs.length ≤ 1048576) (hl' : gs.length ≤ 1048576) (hs : FeatsLen fs 1048576) (hs' : FeatsLen gs 1048576) :
    Calls Tryz.prog 19 #[.slice a fs.length cap, .slice a' gs.length cap'] w fun e w' => e = .returned (.bool (fsEq fs gs)) ∧ Below w.heap.size w w' := by
  have HP := Lib.hid hp
  have HQ := Lib.hid hq
  have HS := Lib.hid hs
  have HS' := Lib.hid hs'
  clear hp hq hs hs'
  go_enter Tryz.func19, Tryz.ntmps19
  go_wp2_with fail
  refine (equalFunc_any _ _ _ _ _ _ _ HP.out HQ.out hl hl' HS.out HS'.out).mono ?_
  rintro e w1 ⟨rfl, hb1⟩
  have B1 := Lib.hid hb1
  clear hb1
  go_wp2
  go_ret
  exact ⟨rfl, B1.out⟩

end Go.Proofs.YtdfadpejddhbkaaGreat
