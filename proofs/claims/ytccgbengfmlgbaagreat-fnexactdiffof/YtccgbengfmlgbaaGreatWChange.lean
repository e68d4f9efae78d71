/- Proved here: what it is that a slice reads as changes, that an argument which is a list of changes does, and the size of such a list; no condition but the bound of 1,048,576. -/
import Derived.Test.YtccgbengfmlgbaaGreatWSheetArg
namespace Go.Proofs.YtccgbengfmlgbaaGreat
set_option linter.unusedVariables false
open Go.ChangeShapes Go.WideShapes Go.ChangeAt Go.RowKit Go.Deep Go.Joins

/-- a change: its name, whether there was something, what, whether there is, and what -/
abbrev Ch := ByteArray × Bool × Ft × Bool × Ft

/-- the parts of a change of a list -/
def cg (ds : List Ch) (i : Nat) : Ch := ds.getD i (.empty, false, (.empty, 0, [], []), false, (.empty, 0, [], []))
def cid (ds : List Ch) (i : Nat) : ByteArray := (cg ds i).1
def chd (ds : List Ch) (i : Nat) : Bool := (cg ds i).2.1
def cwf (ds : List Ch) (i : Nat) : Ft := (cg ds i).2.2.1
def chs (ds : List Ch) (i : Nat) : Bool := (cg ds i).2.2.2.1
def cnf (ds : List Ch) (i : Nat) : Ft := (cg ds i).2.2.2.2

theorem cg_eq (ds : List Ch) (i : Nat) : cg ds i = (cid ds i, chd ds i, cwf ds i, chs ds i, cnf ds i) := rfl
theorem cg_get {ds : List Ch} {i : Nat} (h : i < ds.length) : cg ds i = ds[i] := by simp [cg, h]

/-- eleven cells of a block that are a change -/
structure ChAt (w : World) (b o : Nat) (i : ByteArray) (h : Bool) (f : Ft) (s : Bool) (g : Ft) (pa : Option Addr) (pc : Nat) (ta : Option Addr) (tc : Nat) (qa : Option Addr) (qc : Nat) (ua : Option Addr) (uc : Nat) : Prop where
  lt : b < w.heap.size
  c0 : w.cell? ⟨b, o, none⟩ = some (.string i)
  c1 : w.cell? ⟨b, o + 1, none⟩ = some (.bool h)
  c2 : w.cell? ⟨b, o + 2, none⟩ = some (.string f.1)
  c3 : w.cell? ⟨b, o + 3, none⟩ = some (.int .i64 f.2.1)
  c4 : w.cell? ⟨b, o + 4, none⟩ = some (.slice pa f.2.2.1.length pc)
  c5 : w.cell? ⟨b, o + 5, none⟩ = some (.slice ta f.2.2.2.length tc)
  c6 : w.cell? ⟨b, o + 6, none⟩ = some (.bool s)
  c7 : w.cell? ⟨b, o + 7, none⟩ = some (.string g.1)
  c8 : w.cell? ⟨b, o + 8, none⟩ = some (.int .i64 g.2.1)
  c9 : w.cell? ⟨b, o + 9, none⟩ = some (.slice qa g.2.2.1.length qc)
  c10 : w.cell? ⟨b, o + 10, none⟩ = some (.slice ua g.2.2.2.length uc)
  pts : PtsAt w pa f.2.2.1
  tags : TagsAt w ta f.2.2.2
  qts : PtsAt w qa g.2.2.1
  uags : TagsAt w ua g.2.2.2

theorem ChAt.below {w w' : World} {b o : Nat} {i : ByteArray} {h : Bool} {f : Ft} {s : Bool} {g : Ft} {pa : Option Addr} {pc : Nat} {ta : Option Addr} {tc : Nat} {qa : Option Addr} {qc : Nat} {ua : Option Addr} {uc : Nat} (x : ChAt w b o i h f s g pa pc ta tc qa qc ua uc) (hb : Below w.heap.size w w') : ChAt w' b o i h f s g pa pc ta tc qa qc ua uc :=
  ⟨Nat.lt_of_lt_of_le x.lt hb.size, cell_later hb x.c0, cell_later hb x.c1, cell_later hb x.c2, cell_later hb x.c3, cell_later hb x.c4, cell_later hb x.c5, cell_later hb x.c6, cell_later hb x.c7, cell_later hb x.c8, cell_later hb x.c9, cell_later hb x.c10, x.pts.below hb, x.tags.below hb, x.qts.below hb, x.uags.below hb⟩

/-- a slice that reads as changes -/
def ChangesAt (w : World) (a : Option Addr) (ds : List Ch) : Prop :=
  ∀ i, i < ds.length → ∃ b off pa pc ta tc qa qc ua uc, a = some ⟨b, off, none⟩ ∧ ChAt w b (off + i * 11) (cid ds i) (chd ds i) (cwf ds i) (chs ds i) (cnf ds i) pa pc ta tc qa qc ua uc

theorem ChangesAt.nil (w : World) (a : Option Addr) : ChangesAt w a [] := fun _ h => absurd h (Nat.not_lt_zero _)

theorem ChangesAt.below {w w' : World} {a : Option Addr} {ds : List Ch} (h : ChangesAt w a ds) (hb : Below w.heap.size w w') : ChangesAt w' a ds := by
  intro i hi
  obtain ⟨b, off, pa, pc, ta, tc, qa, qc, ua, uc, rfl, x⟩ := h i hi
  exact ⟨b, off, pa, pc, ta, tc, qa, qc, ua, uc, rfl, x.below hb⟩

theorem FtLen.mono {f : Ft} {l m : Int} (h : FtLen f l) (hm : l ≤ m) : FtLen f m := ⟨Int.le_trans h.1 hm, Int.le_trans h.2.1 hm, Int.le_trans h.2.2.1 hm, h.2.2.2.mono hm⟩
/-- no part of a list of changes is longer than that -/
def ChLen (ds : List Ch) (m : Int) : Prop := ∀ j, j < ds.length → ((cid ds j).size : Int) ≤ m ∧ FtLen (cwf ds j) m ∧ FtLen (cnf ds j) m
theorem ChLen.mono {ds : List Ch} {l m : Int} (h : ChLen ds l) (hm : l ≤ m) : ChLen ds m := fun j hj => ⟨Int.le_trans (h j hj).1 hm, (h j hj).2.1.mono hm, (h j hj).2.2.mono hm⟩

/-- a list of changes of the laws that came in, none of its parts longer than can be -/
structure ChangesIn (w : World) (a : Option Addr) (ds : List Ch) : Prop where
  reads : ChangesAt w a ds
  len : ds.length ≤ 9223372036854775807
  lens : ChLen ds 9223372036854775807

theorem ChangesIn.below {w w' : World} {a : Option Addr} {ds : List Ch} (h : ChangesIn w a ds) (hb : Below w.heap.size w w') : ChangesIn w' a ds := ⟨h.reads.below hb, h.len, h.lens⟩

/-- a thing of the laws that came in, in one word -/
def FtIn (w : World) (pa ta : Option Addr) (f : Ft) : Prop := FeatIn w f.1 pa f.2.2.1 ta f.2.2.2
theorem FtIn.len {w : World} {pa ta : Option Addr} {f : Ft} (h : FtIn w pa ta f) : FtLen f 9223372036854775807 :=
  ⟨by have := h.idl; omega, by have := h.ptl; omega, by have := h.tgl; omega, h.txl⟩
theorem FtIn.of {w : World} {pa ta : Option Addr} {f : Ft} (hp : PtsAt w pa f.2.2.1) (ht : TagsAt w ta f.2.2.2) (hl : FtLen f 9223372036854775807) : FtIn w pa ta f :=
  ⟨hp, ht, by have := hl.1; omega, by have := hl.2.1; omega, by have := hl.2.2.1; omega, hl.2.2.2⟩
theorem FtIn.below {w w' : World} {pa ta : Option Addr} {f : Ft} (h : FtIn w pa ta f) (hb : Below w.heap.size w w') : FtIn w' pa ta f := FeatIn.below h hb

/-- what 'szChange' answers -/
def SzCh (i : ByteArray) (f g : Ft) (left r : Int) : Prop := r = -1 ∨ (0 ≤ r ∧ r ≤ left ∧ (i.size : Int) ≤ left ∧ FtLen f left ∧ FtLen g left)


set_option maxRecDepth 100000 in
set_option maxHeartbeats 4000000 in
theorem szChange_any (i : ByteArray) (h : Bool) (f : Ft) (s : Bool) (g : Ft) (pa : Option Addr) (pc : Nat) (ta : Option Addr) (tc : Nat) (qa : Option Addr) (qc : Nat) (ua : Option Addr) (uc : Nat) (left : Int) (w : World) (hi : i.size ≤ 9223372036854775807) (hf : FtIn w pa ta f) (hg : FtIn w qa ua g) (h0 : 0 ≤ left) (h1 : left ≤ 1048576) :
    Calls Tryz.prog 68 #[.agg #[.string i, .bool h, .string f.1, .int .i64 f.2.1, .slice pa f.2.2.1.length pc, .slice ta f.2.2.2.length tc, .bool s, .string g.1, .int .i64 g.2.1, .slice qa g.2.2.1.length qc, .slice ua g.2.2.2.length uc], .int .i64 left] w fun e w' => (∃ r, e = .returned (.int .i64 r) ∧ SzCh i f g left r) ∧ Below w.heap.size w w' := by
  have HF := Lib.hid hf
  have HG := Lib.hid hg
  clear hf hg
  have A1 : Hid (∀ o, Below w.heap.size w (w.alloc o)) := fun o => (Below.refl _ _).alloc (Nat.le_refl _) _
  by_cases e1 : (i.size : Int) ≤ left
  · go_enter Tryz.func68, Tryz.ntmps68
    go_wp2_with fail
    refine (szFeat_any _ _ _ _ _ _ _ _ _ _ (HF.out.below (A1.out _)) (by omega) (by omega)).mono ?_
    rintro e w1 ⟨⟨r, rfl, hs⟩, hb1⟩
    have c7 := cell_later hb1 (a := ⟨w.heap.size, 7, none⟩) (v := .string g.1) (by simp [go_sem])
    have c8 := cell_later hb1 (a := ⟨w.heap.size, 8, none⟩) (v := .int .i64 g.2.1) (by simp [go_sem])
    have c9 := cell_later hb1 (a := ⟨w.heap.size, 9, none⟩) (v := .slice qa g.2.2.1.length qc) (by simp [go_sem])
    have c10 := cell_later hb1 (a := ⟨w.heap.size, 10, none⟩) (v := .slice ua g.2.2.2.length uc) (by simp [go_sem])
    have B1 : Hid (Below w.heap.size w w1) := (A1.out _).trans (hb1.mono (by simp))
    clear hb1
    rcases hs with rfl | ⟨q1, q2, q3, q4, q5, q6⟩
    · go_wp2
      go_ret
      exact ⟨⟨_, rfl, .inl rfl⟩, B1.out⟩
    · have Q : Hid (FtLen f left) := ⟨by omega, by omega, by omega, q6.mono (by omega)⟩
      clear q3 q4 q5 q6
      go_wp2_with fail
      refine (szFeat_any _ _ _ _ _ _ _ _ _ _ (HG.out.below B1.out) q1 (by omega)).mono ?_
      rintro e w2 ⟨⟨r', rfl, hs⟩, hb2⟩
      have B2 : Hid (Below w.heap.size w w2) := B1.out.trans (hb2.mono B1.out.size)
      clear hb2 c7 c8 c9 c10
      rcases hs with rfl | ⟨p1, p2, p3, p4, p5, p6⟩
      · go_wp2
        go_ret
        exact ⟨⟨_, rfl, .inl rfl⟩, B2.out⟩
      · have Q' : Hid (FtLen g left) := ⟨by omega, by omega, by omega, p6.mono (by omega)⟩
        clear p3 p4 p5 p6
        go_wp2
        go_ret
        exact ⟨⟨_, rfl, .inr ⟨p1, by omega, e1, Q.out, Q'.out⟩⟩, B2.out⟩
  · go_enter Tryz.func68, Tryz.ntmps68
    go_wp2
    go_ret
    exact ⟨⟨_, rfl, .inl rfl⟩, A1.out _⟩

def SzChs (ds : List Ch) (left : Int) (r : Int) : Prop := r = -1 ∨ (0 ≤ r ∧ r ≤ left ∧ (ds.length : Int) ≤ left ∧ ChLen ds left)

set_option maxRecDepth 100000 in
set_option maxHeartbeats 4000000 in
theorem szChangeS_any (a : Option Addr) (cap : Nat) (ds : List Ch) (left : Int) (w : World) (hf : ChangesIn w a ds) (h0 : 0 ≤ left) (h1 : left ≤ 1048576) :
    Calls Tryz.prog 32 #[.slice a ds.length cap, .int .i64 left] w fun e w' => (∃ r, e = .returned (.int .i64 r) ∧ SzChs ds left r) ∧ Below w.heap.size w w' := by
  obtain ⟨hp, hm, hl⟩ := hf
  have HP := Lib.hid hp
  have HL := Lib.hid hl
  clear hp hl
  by_cases g1 : (ds.length : Int) ≤ left
  · go_enter Tryz.func32, Tryz.ntmps32
    go_wp2
    go_loopw [1, 5] (fun l i wr => ∃ (k : Nat) (r : Int), k ≤ ds.length ∧ i = .int .i64 k ∧ l = .int .i64 r ∧ 0 ≤ r ∧ r ≤ left ∧ Below w.heap.size w wr ∧ ∀ j, j < k → ((cid ds j).size : Int) ≤ left ∧ FtLen (cwf ds j) left ∧ FtLen (cnf ds j) left) (fun _ i _ => ds.length - (intOf i).toNat)
    case atStart => exact ⟨0, left - ds.length, Nat.zero_le _, rfl, by simp, by omega, by omega, Below.refl _ _, fun j h => absurd h (Nat.not_lt_zero _)⟩
    case round =>
      obtain ⟨k, r, hk, rfl, rfl, hr0, hr1, hbel, hall⟩ := hrel
      have HA := Lib.hid hall
      have HB := Lib.hid hbel
      have hsz := hbel.size
      clear hall
      by_cases hlt : k < ds.length
      · obtain ⟨b, off, pa, pc, ta, tc, qa, qc, ua, uc, rfl, hx⟩ := HP.out k hlt
        obtain ⟨hb, c0, c1, c2, c3, c4, c5, c6, c7, c8, c9, c10, hpp, htt, hqq, huu⟩ := hx.below hbel
        have HI : Hid (FtIn wr pa ta (cwf ds k)) := FtIn.of hpp htt (HL.out k hlt).2.1
        have HJ : Hid (FtIn wr qa ua (cnf ds k)) := FtIn.of hqq huu (HL.out k hlt).2.2
        clear hbel hpp htt hqq huu hx
        go_wp2_with fail
        refine (szChange_any _ _ _ _ _ _ _ _ _ _ _ _ _ _ _ (by have := (HL.out k hlt).1; omega) HI.out HJ.out hr0 (by omega)).mono ?_
        rintro e w1 ⟨⟨r', rfl, hs⟩, hb1⟩
        have B1 : Hid (Below w.heap.size w w1) := HB.out.trans (hb1.mono hsz)
        clear hb1 c0 c1 c2 c3 c4 c5 c6 c7 c8 c9 c10
        rcases hs with rfl | ⟨g2, g3, g4, g5, g6⟩
        · go_wp2
          go_ret
          exact ⟨⟨_, rfl, .inl rfl⟩, B1.out⟩
        · have G5 := Lib.hid g5
          have G6 := Lib.hid g6
          clear g5 g6
          go_wp2
          go_roundw
          case rel => exact ⟨k + 1, r', by omega, by go_num, rfl, g2, by omega, B1.out, fun j hj => by by_cases e : j = k; (subst e; exact ⟨by omega, G5.out.mono (by omega), G6.out.mono (by omega)⟩); exact HA.out j (by omega)⟩
          case measure => simp [intOf]; omega
      · obtain rfl : k = ds.length := by omega
        clear hbel
        go_wp2
        go_ret
        exact ⟨⟨_, rfl, .inr ⟨hr0, hr1, g1, HA.out⟩⟩, HB.out⟩
  · go_enter Tryz.func32, Tryz.ntmps32
    go_wp2
    go_ret
    exact ⟨⟨_, rfl, .inl rfl⟩, Below.refl _ _⟩


theorem cells_lchange : Tryz.prog.cellsOf 106 = 11 := by kernel_rfl
theorem cells_bool : Tryz.prog.cellsOf 4 = 1 := by kernel_rfl

section
variable {H : Type} {enc : TypeId × Value → H} {P : Program} {w : World} {base : Nat} {spare : Nat → Bool} {held : Bool}
theorem trod_struct5 {t : TypeId} {f0 f1 f2 f3 f4 : Field} {fuel : Nat} {cs : List Value} {x : DataW H × List MemPlace} (ht : P.underlying t = some (.struct #[f0, f1, f2, f3, f4])) (h : DataW.trod enc P w base spare held fuel t cs = some x) :
    ∃ y0 y1 y2 y3 y4 n, DataW.trod enc P w base spare held n f0.type ((cs.drop f0.offset).take (P.cellsOf f0.type)) = some y0 ∧ DataW.trod enc P w base spare held n f1.type ((cs.drop f1.offset).take (P.cellsOf f1.type)) = some y1 ∧
      DataW.trod enc P w base spare held n f2.type ((cs.drop f2.offset).take (P.cellsOf f2.type)) = some y2 ∧ DataW.trod enc P w base spare held n f3.type ((cs.drop f3.offset).take (P.cellsOf f3.type)) = some y3 ∧ DataW.trod enc P w base spare held n f4.type ((cs.drop f4.offset).take (P.cellsOf f4.type)) = some y4 := by
  obtain ⟨xs, n, _, rfl, hl, hlen, hf⟩ := DataW.trod_struct ht h
  match xs, hlen with
  | [y0, y1, y2, y3, y4], _ => exact ⟨y0, y1, y2, y3, y4, n, by simpa using hf 0 f0 rfl, by simpa using hf 1 f1 rfl, by simpa using hf 2 f2 rfl, by simpa using hf 3 f3 rfl, by simpa using hf 4 f4 rfl⟩
end

set_option maxRecDepth 100000 in
/-- the eleven cells of a change of the laws -/
theorem change_cells {H : Type} {enc : TypeId × Value → H} {W : World} {base : Nat} {spare : Nat → Bool} {held : Bool} {fuel : Nat} {cs : List Value} {x : DataW H × List MemPlace}
    (hl : cs.length = 11) (hf : DataW.trod enc Tryz.prog W base spare held fuel 106 cs = some x) :
    ∃ (i : ByteArray) (h : Bool) (f : Ft) (s : Bool) (g : Ft) (pa : Option Addr) (pc : Nat) (ta : Option Addr) (tc : Nat) (qa : Option Addr) (qc : Nat) (ua : Option Addr) (uc : Nat),
      cs = [.string i, .bool h, .string f.1, .int .i64 f.2.1, .slice pa f.2.2.1.length pc, .slice ta f.2.2.2.length tc, .bool s, .string g.1, .int .i64 g.2.1, .slice qa g.2.2.1.length qc, .slice ua g.2.2.2.length uc] ∧ i.size ≤ 9223372036854775807 ∧ FtIn W pa ta f ∧ FtIn W qa ua g := by
  match cs, hl with
  | [c0, c1, c2, c3, c4, c5, c6, c7, c8, c9, c10], _ =>
  obtain ⟨y0, y1, y2, y3, y4, n, h0, h1, h2, h3, h4⟩ := trod_struct5 Tryz.underlying106 hf
  simp only [cells_string] at h0
  simp only [cells_bool] at h1 h3
  simp only [cells_lfeat] at h2 h4
  obtain ⟨id, e0, _, w0⟩ := DataW.trod_string Tryz.underlying9 h0
  obtain ⟨h, e1, _⟩ := DataW.trod_bool Tryz.underlying4 h1
  obtain ⟨s, e3, _⟩ := DataW.trod_bool Tryz.underlying4 h3
  obtain ⟨pa, ta, pc, tc, f, e2, hF⟩ := feat_cells (by simp) h2
  obtain ⟨qa, ua, qc, uc, g, e4, hG⟩ := feat_cells (by simp) h4
  simp at e0 e1 e2 e3 e4
  obtain ⟨rfl, rfl, rfl, rfl⟩ := e2
  obtain ⟨rfl, rfl, rfl, rfl⟩ := e4
  subst e0 e1 e3
  unfold maxLen at w0
  exact ⟨id, h, f, s, g, pa, pc, ta, tc, qa, qc, ua, uc, rfl, w0, hF, hG⟩

/-- the places of the parts of a change -/
abbrev Pl8 := Option Addr × Nat × Option Addr × Nat × Option Addr × Nat × Option Addr × Nat

set_option maxRecDepth 100000 in
set_option maxHeartbeats 1000000 in
/-- a list of changes of the laws that came in -/
theorem open_changes {H : Type} {enc : TypeId × Value → H} {W : World} {r : Reach} {b0 base : Nat} {spare : Nat → Bool} {held : Bool} {v : Value} {d : DataW H} {p : List MemPlace}
    (hv : Value.okWide Tryz.prog W r b0 61 v) (h : DataW.Trod enc Tryz.prog W base spare held 61 v d p) :
    ∃ (a : Option Addr) (cap : Nat) (ds : List Ch), v = .slice a ds.length cap ∧ ChangesIn W a ds := by
  obtain ⟨a0, len, cap, rfl⟩ := okWide_slice Tryz.underlying61 hv
  obtain ⟨fuel, hf⟩ := h
  rcases open_slice Tryz.underlying61 hf with ⟨hcs, _⟩ | ⟨a, l, c, m, n, D, Pl, hcs, hb, hl, hm, hmm, hx, hi⟩
  · obtain ⟨rfl, rfl, rfl⟩ : a0 = none ∧ len = 0 ∧ cap = 0 := by simpa [Value.cells] using hcs
    exact ⟨none, 0, [], rfl, ChangesAt.nil _ _, Nat.zero_le _, fun j h => absurd h (Nat.not_lt_zero _)⟩
  · obtain ⟨rfl, rfl, rfl⟩ : a0 = some a ∧ len = l ∧ cap = c := by simpa [Value.cells] using hcs
    have hlm : len ≤ m := by rw [hmm]; split <;> omega
    have each : ∀ i, i < len → ∃ q : Pl8 × Ch, (W.cell? (a.add (i * 11)) = some (.string q.2.1) ∧ W.cell? (a.add (i * 11 + 1)) = some (.bool q.2.2.1) ∧ W.cell? (a.add (i * 11 + 2)) = some (.string q.2.2.2.1.1) ∧ W.cell? (a.add (i * 11 + 3)) = some (.int .i64 q.2.2.2.1.2.1) ∧ W.cell? (a.add (i * 11 + 4)) = some (.slice q.1.1 q.2.2.2.1.2.2.1.length q.1.2.1) ∧ W.cell? (a.add (i * 11 + 5)) = some (.slice q.1.2.2.1 q.2.2.2.1.2.2.2.length q.1.2.2.2.1) ∧ W.cell? (a.add (i * 11 + 6)) = some (.bool q.2.2.2.2.1) ∧ W.cell? (a.add (i * 11 + 7)) = some (.string q.2.2.2.2.2.1) ∧ W.cell? (a.add (i * 11 + 8)) = some (.int .i64 q.2.2.2.2.2.2.1) ∧ W.cell? (a.add (i * 11 + 9)) = some (.slice q.1.2.2.2.2.1 q.2.2.2.2.2.2.2.1.length q.1.2.2.2.2.2.1) ∧ W.cell? (a.add (i * 11 + 10)) = some (.slice q.1.2.2.2.2.2.2.1 q.2.2.2.2.2.2.2.2.length q.1.2.2.2.2.2.2.2)) ∧
        q.2.1.size ≤ 9223372036854775807 ∧ FtIn W q.1.1 q.1.2.2.1 q.2.2.2.1 ∧ FtIn W q.1.2.2.2.2.1 q.1.2.2.2.2.2.2.1 q.2.2.2.2.2 := by
      intro i hil
      obtain ⟨cs', h1, h2⟩ := hi i (by omega)
      rw [cells_lchange] at h1
      obtain ⟨_, hlen, hcell⟩ := World.cells?_some h1
      obtain ⟨id, h, f, s, g, pa, pc, ta, tc, qa, qc, ua, uc, rfl, hI, hF, hG⟩ := change_cells hlen h2
      have e0 := hcell 0 (by omega)
      have e1 := hcell 1 (by omega)
      have e2 := hcell 2 (by omega)
      have e3 := hcell 3 (by omega)
      have e4 := hcell 4 (by omega)
      have e5 := hcell 5 (by omega)
      have e6 := hcell 6 (by omega)
      have e7 := hcell 7 (by omega)
      have e8 := hcell 8 (by omega)
      have e9 := hcell 9 (by omega)
      have e10 := hcell 10 (by omega)
      rw [add_add] at e0 e1 e2 e3 e4 e5 e6 e7 e8 e9 e10
      exact ⟨((pa, pc, ta, tc, qa, qc, ua, uc), (id, h, f, s, g)), ⟨by simpa using e0, by simpa using e1, by simpa using e2, by simpa using e3, by simpa using e4, by simpa using e5, by simpa using e6, by simpa using e7, by simpa using e8, by simpa using e9, by simpa using e10⟩, hI, hF, hG⟩
    obtain ⟨q, hq⟩ := choose_lt each
    have hg : ∀ i, i < len → cg ((List.range len).map fun i => (q i).2) i = (q i).2 := fun i hil => by simp [cg, hil]
    unfold maxLen at hm
    refine ⟨some a, cap, (List.range len).map fun i => (q i).2, by simp, ?_, by simp; omega, ?_⟩
    · intro i hi'
      have hil : i < len := by simpa using hi'
      obtain ⟨⟨h0, h1, h2, h3, h4, h5, h6, h7, h8, h9, h10⟩, hI, hF, hG⟩ := hq i hil
      obtain ⟨b, off, spot⟩ := a
      have hspot : spot = none := by simpa [Addr.add] using World.cell?_spot (hq 0 (by omega)).1.1
      subst hspot
      rw [add_plain] at h0 h1 h2 h3 h4 h5 h6 h7 h8 h9 h10
      unfold cid chd cwf chs cnf
      rw [hg i hil]
      exact ⟨b, off, (q i).1.1, (q i).1.2.1, (q i).1.2.2.1, (q i).1.2.2.2.1, (q i).1.2.2.2.2.1, (q i).1.2.2.2.2.2.1, (q i).1.2.2.2.2.2.2.1, (q i).1.2.2.2.2.2.2.2, rfl, World.block_lt_of_cell? W _ h0, h0, by simpa [Nat.add_assoc] using h1, by simpa [Nat.add_assoc] using h2, by simpa [Nat.add_assoc] using h3, by simpa [Nat.add_assoc] using h4, by simpa [Nat.add_assoc] using h5, by simpa [Nat.add_assoc] using h6, by simpa [Nat.add_assoc] using h7, by simpa [Nat.add_assoc] using h8, by simpa [Nat.add_assoc] using h9, by simpa [Nat.add_assoc] using h10, hF.pts, hF.tags, hG.pts, hG.tags⟩
    · intro i hi'
      have hil : i < len := by simpa using hi'
      obtain ⟨_, hI, hF, hG⟩ := hq i hil
      unfold cid cwf cnf
      rw [hg i hil]
      exact ⟨by omega, hF.len, hG.len⟩
end Go.Proofs.YtccgbengfmlgbaaGreat
