/- Proved here: an argument that is versions and branches reads as such; no condition. -/
import Derived.Test.YtdchfologicbeaaGreatWSheetArg
import Derived.Test.YtdchfologicbeaaGreatWCommit
namespace Go.Proofs.YtdchfologicbeaaGreat
set_option linter.unusedVariables false
open Go.ChangeShapes Go.WideShapes Go.ChangeAt Go.RowKit Go.Deep Go.Joins

theorem cells_lcommit : Tryz.prog.cellsOf 202 = 3 := by kernel_rfl
theorem cells_lhead : Tryz.prog.cellsOf 204 = 2 := by kernel_rfl
theorem cells_lrepo : Tryz.prog.cellsOf 56 = 2 := by kernel_rfl
theorem cells_ints : Tryz.prog.cellsOf 81 = 1 := by kernel_rfl
theorem cells_lfeats : Tryz.prog.cellsOf 68 = 1 := by kernel_rfl
theorem cells_lcommits : Tryz.prog.cellsOf 53 = 1 := by kernel_rfl
theorem cells_lheads : Tryz.prog.cellsOf 54 = 1 := by kernel_rfl

set_option maxRecDepth 100000 in
/-- a row of numbers that came in -/
theorem open_ints {H : Type} {enc : TypeId × Value → H} {W : World} {base : Nat} {spare : Nat → Bool} {held : Bool} {fuel : Nat} {v : Value} {x : DataW H × List MemPlace}
    (h : DataW.trod enc Tryz.prog W base spare held fuel 81 [v] = some x) :
    ∃ (a : Option Addr) (cap : Nat) (is : List Int), v = .slice a is.length cap ∧ IntsAt W a is ∧ is.length ≤ maxLen := by
  rcases open_slice Tryz.underlying81 h with ⟨hcs, _⟩ | ⟨a, len, cap, m, n, D, Pl, hcs, hb, hl, hm, hmm, hx, hi⟩
  · obtain rfl : v = .slice none 0 0 := by simpa using hcs
    exact ⟨none, 0, [], rfl, IntsAt.nil _ _, Nat.zero_le _⟩
  · obtain rfl : v = .slice (some a) len cap := by simpa using hcs
    have hlm : len ≤ m := by rw [hmm]; split <;> omega
    have each : ∀ i, i < len → ∃ q : Int, W.cell? (a.add i) = some (.int .i64 q) := by
      intro i hil
      obtain ⟨cs', h1, h2⟩ := hi i (by omega)
      rw [cells_int, Nat.mul_one] at h1
      obtain ⟨_, hlen, hcell⟩ := World.cells?_some h1
      obtain ⟨k, e1, _, _⟩ := DataW.trod_int Tryz.underlying3 h2
      have e0 := hcell 0 (by omega)
      subst e1
      refine ⟨k, ?_⟩
      simpa [Addr.add] using e0
    obtain ⟨q, hq⟩ := choose_lt each
    refine ⟨some a, cap, (List.range len).map q, by simp, ?_, by simp; omega⟩
    intro i hi'
    have hil : i < len := by simpa using hi'
    have h0 := hq i hil
    obtain ⟨b, off, spot⟩ := a
    have hspot : spot = none := by simpa [Addr.add] using World.cell?_spot (hq 0 (by omega))
    subst hspot
    rw [add_plain] at h0
    have hpx : ix ((List.range len).map q) i = q i := by simp [ix, hil]
    rw [hpx]
    exact ⟨b, off, rfl, World.block_lt_of_cell? W _ h0, h0⟩

set_option maxRecDepth 100000 in
/-- a list of things of the laws within another -/
theorem open_featsL {H : Type} {enc : TypeId × Value → H} {W : World} {base : Nat} {spare : Nat → Bool} {held : Bool} {fuel : Nat} {v : Value} {x : DataW H × List MemPlace}
    (hf : DataW.trod enc Tryz.prog W base spare held fuel 68 [v] = some x) :
    ∃ (a : Option Addr) (cap : Nat) (fs : List Ft), v = .slice a fs.length cap ∧ FeatsIn W a fs := by
  rcases open_slice Tryz.underlying68 hf with ⟨hcs, _⟩ | ⟨a, len, cap, m, n, D, Pl, hcs, hb, hl, hm, hmm, hx, hi⟩
  · obtain rfl : v = .slice none 0 0 := by simpa using hcs
    exact ⟨none, 0, [], rfl, FeatsAt.nil _ _, Nat.zero_le _, fun j h => absurd h (Nat.not_lt_zero _)⟩
  · obtain rfl : v = .slice (some a) len cap := by simpa using hcs
    have hlm : len ≤ m := by rw [hmm]; split <;> omega
    have each : ∀ i, i < len → ∃ q : (Option Addr × Option Addr × Nat × Nat) × Ft, (W.cell? (a.add (i * 4)) = some (.string q.2.1) ∧ W.cell? (a.add (i * 4 + 1)) = some (.int .i64 q.2.2.1) ∧ W.cell? (a.add (i * 4 + 2)) = some (.slice q.1.1 q.2.2.2.1.length q.1.2.2.1) ∧ W.cell? (a.add (i * 4 + 3)) = some (.slice q.1.2.1 q.2.2.2.2.length q.1.2.2.2)) ∧ FeatIn W q.2.1 q.1.1 q.2.2.2.1 q.1.2.1 q.2.2.2.2 := by
      intro i hil
      obtain ⟨cs', h1, h2⟩ := hi i (by omega)
      rw [cells_lfeat] at h1
      obtain ⟨_, hlen, hcell⟩ := World.cells?_some h1
      obtain ⟨pa, ta, pc, tc, f, rfl, hF⟩ := feat_cells hlen h2
      have e0 := hcell 0 (by omega)
      have e1 := hcell 1 (by omega)
      have e2 := hcell 2 (by omega)
      have e3 := hcell 3 (by omega)
      rw [add_add] at e0 e1 e2 e3
      exact ⟨((pa, ta, pc, tc), f), ⟨by simpa using e0, by simpa using e1, by simpa using e2, by simpa using e3⟩, hF⟩
    obtain ⟨q, hq⟩ := choose_lt each
    have hg : ∀ i, i < len → fg ((List.range len).map fun i => (q i).2) i = (q i).2 := fun i hil => by simp [fg, hil]
    unfold maxLen at hm
    refine ⟨some a, cap, (List.range len).map fun i => (q i).2, by simp, ?_, by simp; omega, ?_⟩
    · intro i hi'
      have hil : i < len := by simpa using hi'
      obtain ⟨⟨h0, h1, h2, h3⟩, hF⟩ := hq i hil
      obtain ⟨b, off, spot⟩ := a
      have hspot : spot = none := by simpa [Addr.add] using World.cell?_spot (hq 0 (by omega)).1.1
      subst hspot
      rw [add_plain] at h0 h1 h2 h3
      unfold fid fkd fps fts
      rw [hg i hil]
      exact ⟨b, off, (q i).1.1, (q i).1.2.2.1, (q i).1.2.1, (q i).1.2.2.2, rfl, World.block_lt_of_cell? W _ h0, h0, by simpa [Nat.add_assoc] using h1, by simpa [Nat.add_assoc] using h2, by simpa [Nat.add_assoc] using h3, hF.pts, hF.tags⟩
    · intro i hi'
      have hil : i < len := by simpa using hi'
      obtain ⟨_, hF⟩ := hq i hil
      unfold fid fps fts
      rw [hg i hil]
      exact ⟨by have := hF.idl; omega, by have := hF.ptl; omega, by have := hF.tgl; omega, hF.txl⟩

set_option maxRecDepth 100000 in
/-- the three cells of a version of the laws -/
theorem commit_cells {H : Type} {enc : TypeId × Value → H} {W : World} {base : Nat} {spare : Nat → Bool} {held : Bool} {fuel : Nat} {cs : List Value} {x : DataW H × List MemPlace}
    (hl : cs.length = 3) (hf : DataW.trod enc Tryz.prog W base spare held fuel 202 cs = some x) :
    ∃ (ua sa : Option Addr) (uc sc : Nat) (c : Cm), cs = [.slice ua c.1.length uc, .slice sa c.2.1.length sc, .string c.2.2] ∧ IntsAt W ua c.1 ∧ FeatsAt W sa c.2.1 ∧ CmLen c 9223372036854775807 := by
  match cs, hl with
  | [c0, c1, c2], _ =>
  obtain ⟨y0, y1, y2, n, hx, _, h0, h1, h2⟩ := trod_struct3 Tryz.underlying202 hf
  simp only [cells_ints] at h0
  simp only [cells_lfeats] at h1
  simp only [cells_string] at h2
  obtain ⟨id, e2, _, w0⟩ := DataW.trod_string Tryz.underlying9 h2
  obtain ⟨ua, uc, is, e0, hi, hm⟩ := open_ints h0
  obtain ⟨sa, sc, fs, e1, hF⟩ := open_featsL h1
  simp at e2
  subst e0 e1 e2
  unfold maxLen at w0 hm
  have := hF.len
  exact ⟨ua, sa, uc, sc, (is, fs, id), rfl, hi, hF.reads, by show (is.length : Int) ≤ _; omega, by show (fs.length : Int) ≤ _; omega, hF.lens, by show (id.size : Int) ≤ _; omega⟩

set_option maxRecDepth 100000 in
/-- a list of versions of the laws that came in -/
theorem open_commits {H : Type} {enc : TypeId × Value → H} {W : World} {base : Nat} {spare : Nat → Bool} {held : Bool} {fuel : Nat} {v : Value} {x : DataW H × List MemPlace}
    (hf : DataW.trod enc Tryz.prog W base spare held fuel 53 [v] = some x) :
    ∃ (a : Option Addr) (cap : Nat) (cs : List Cm), v = .slice a cs.length cap ∧ CommitsIn W a cs := by
  rcases open_slice Tryz.underlying53 hf with ⟨hcs, _⟩ | ⟨a, len, cap, m, n, D, Pl, hcs, hb, hl, hm, hmm, hx, hi⟩
  · obtain rfl : v = .slice none 0 0 := by simpa using hcs
    exact ⟨none, 0, [], rfl, CommitsAt.nil _ _, Nat.zero_le _, fun j h => absurd h (Nat.not_lt_zero _)⟩
  · obtain rfl : v = .slice (some a) len cap := by simpa using hcs
    have hlm : len ≤ m := by rw [hmm]; split <;> omega
    have each : ∀ i, i < len → ∃ q : Pl2 × Cm, (W.cell? (a.add (i * 3)) = some (.slice q.1.1.1 q.2.1.length q.1.1.2) ∧ W.cell? (a.add (i * 3 + 1)) = some (.slice q.1.2.1 q.2.2.1.length q.1.2.2) ∧ W.cell? (a.add (i * 3 + 2)) = some (.string q.2.2.2)) ∧ IntsAt W q.1.1.1 q.2.1 ∧ FeatsAt W q.1.2.1 q.2.2.1 ∧ CmLen q.2 9223372036854775807 := by
      intro i hil
      obtain ⟨cs', h1, h2⟩ := hi i (by omega)
      rw [cells_lcommit] at h1
      obtain ⟨_, hlen, hcell⟩ := World.cells?_some h1
      obtain ⟨ua, sa, uc, sc, c, rfl, hI, hF, hL⟩ := commit_cells hlen h2
      have e0 := hcell 0 (by omega)
      have e1 := hcell 1 (by omega)
      have e2 := hcell 2 (by omega)
      rw [add_add] at e0 e1 e2
      exact ⟨(((ua, uc), (sa, sc)), c), ⟨by simpa using e0, by simpa using e1, by simpa using e2⟩, hI, hF, hL⟩
    obtain ⟨q, hq⟩ := choose_lt each
    have hg : ∀ i, i < len → mg ((List.range len).map fun i => (q i).2) i = (q i).2 := fun i hil => by simp [mg, hil]
    unfold maxLen at hm
    refine ⟨some a, cap, (List.range len).map fun i => (q i).2, by simp, ?_, by simp; omega, ?_⟩
    · intro i hi'
      have hil : i < len := by simpa using hi'
      obtain ⟨⟨h0, h1, h2⟩, hI, hF, hL⟩ := hq i hil
      obtain ⟨b, off, spot⟩ := a
      have hspot : spot = none := by simpa [Addr.add] using World.cell?_spot (hq 0 (by omega)).1.1
      subst hspot
      rw [add_plain] at h0 h1 h2
      rw [hg i hil]
      exact ⟨b, off, (q i).1.1.1, (q i).1.1.2, (q i).1.2.1, (q i).1.2.2, rfl, World.block_lt_of_cell? W _ h0, h0, by simpa [Nat.add_assoc] using h1, by simpa [Nat.add_assoc] using h2, hI, hF⟩
    · intro i hi'
      have hil : i < len := by simpa using hi'
      obtain ⟨_, _, _, hL⟩ := hq i hil
      rw [hg i hil]
      exact hL

/-- a list of branches of the laws that came in -/
structure HeadsIn (w : World) (a : Option Addr) (hs : List Hd) : Prop where
  reads : HeadsAt w a hs
  len : hs.length ≤ 9223372036854775807
  lens : HeadsLen hs 9223372036854775807

theorem HeadsIn.below {w w' : World} {a : Option Addr} {hs : List Hd} (h : HeadsIn w a hs) (hb : Below w.heap.size w w') : HeadsIn w' a hs := ⟨h.reads.below hb, h.len, h.lens⟩

theorem open_heads {H : Type} {enc : TypeId × Value → H} {W : World} {base : Nat} {spare : Nat → Bool} {held : Bool} {fuel : Nat} {v : Value} {x : DataW H × List MemPlace}
    (h : DataW.trod enc Tryz.prog W base spare held fuel 54 [v] = some x) :
    ∃ (a : Option Addr) (cap : Nat) (hs : List Hd), v = .slice a hs.length cap ∧ HeadsIn W a hs := by
  rcases open_slice_pairs Tryz.underlying54 Tryz.underlying204 cells_lhead rfl rfl cells_string cells_int h with ⟨hcs, _⟩ | ⟨a, len, cap, m, n, V0, V1, D0, D1, P0, P1, hcs, hb, hl, hm, hmm, hx, hi⟩
  · obtain rfl : v = .slice none 0 0 := by simpa using hcs
    exact ⟨none, 0, [], rfl, HeadsAt.nil _ _, Nat.zero_le _, fun j h => absurd h (Nat.not_lt_zero _)⟩
  · obtain rfl : v = .slice (some a) len cap := by simpa using hcs
    have hlm : len ≤ m := by rw [hmm]; split <;> omega
    have each : ∀ i, i < len → ∃ q : Hd, W.cell? (a.add (i * 2)) = some (.string q.1) ∧ W.cell? (a.add (i * 2 + 1)) = some (.int .i64 q.2) ∧ q.1.size ≤ maxLen := by
      intro i hil
      obtain ⟨h0, h1, t0, t1⟩ := hi i (by omega)
      obtain ⟨x0, e0, _, w0⟩ := DataW.trod_string Tryz.underlying9 t0
      obtain ⟨x1, e1, _, _⟩ := DataW.trod_int Tryz.underlying3 t1
      simp only [List.cons.injEq, and_true] at e0 e1
      exact ⟨(x0, x1), by rw [h0, e0], by rw [h1, e1], w0⟩
    obtain ⟨q, hq⟩ := choose_lt each
    have hpx : ∀ i, i < len → hdn ((List.range len).map q) i = (q i).1 := fun i hil => by simp [hdn, hil]
    have hpy : ∀ i, i < len → hda ((List.range len).map q) i = (q i).2 := fun i hil => by simp [hda, hil]
    unfold maxLen at hm
    refine ⟨some a, cap, (List.range len).map q, by simp, ?_, by simp; omega, ?_⟩
    · intro i hi'
      have hil : i < len := by simpa using hi'
      obtain ⟨h0, h1, _⟩ := hq i hil
      obtain ⟨b, off, spot⟩ := a
      have hspot : spot = none := by simpa [Addr.add] using World.cell?_spot (hq 0 (by omega)).1
      subst hspot
      rw [add_plain] at h0 h1
      rw [hpx i hil, hpy i hil]
      refine ⟨b, off, rfl, World.block_lt_of_cell? W _ h0, ?_, ?_⟩
      · exact h0
      · simpa [Nat.add_assoc] using h1
    · intro i hi'
      have hil : i < len := by simpa using hi'
      obtain ⟨_, _, h2⟩ := hq i hil
      unfold maxLen at h2
      rw [hpx i hil]
      omega

set_option maxRecDepth 100000 in
/-- versions and branches of the laws that came in -/
theorem open_repo {H : Type} {enc : TypeId × Value → H} {W : World} {r : Reach} {b0 base : Nat} {spare : Nat → Bool} {held : Bool} {v : Value} {d : DataW H} {p : List MemPlace}
    (hv : Value.okWide Tryz.prog W r b0 56 v) (h : DataW.Trod enc Tryz.prog W base spare held 56 v d p) :
    ∃ (a : Option Addr) (cap : Nat) (cs : List Cm) (b : Option Addr) (cap' : Nat) (hs : List Hd), v = .agg #[.slice a cs.length cap, .slice b hs.length cap'] ∧ CommitsIn W a cs ∧ HeadsIn W b hs := by
  obtain ⟨c0, c1, y0, y1, m, rfl, _, _, hy0, hy1⟩ := open_agg2 Tryz.underlying56 (by kernel_rfl) cells_lrepo hv h
  obtain ⟨a, cap, cs, rfl, hC⟩ := open_commits hy0
  obtain ⟨b, cap', hs, rfl, hH⟩ := open_heads hy1
  exact ⟨a, cap, cs, b, cap', hs, rfl, hC, hH⟩

end Go.Proofs.YtdchfologicbeaaGreat
