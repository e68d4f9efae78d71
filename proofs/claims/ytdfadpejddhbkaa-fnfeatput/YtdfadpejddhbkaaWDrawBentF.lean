/- Proved here: the draw of a thing that may be bent is a thing of at most seven points and four tags, and turns nothing but the reader's place; codes of at most 2,000 bytes. -/
import Derived.Test.YtdfadpejddhbkaaWDrawFeat
namespace Go.Proofs.Ytdfadpejddhbkaa
set_option linter.unusedVariables false
open Go.ChangeShapes Go.WideShapes Go.ChangeAt Go.RowKit Go.Deep

/-- a thing that is being bent -/
structure BentLay (w : World) (R : Nat) (a : Option Addr) (len cap : Nat) (d : Nat) (id : ByteArray) (k : Int) (pa : Option Addr) (pc : Nat) (ps : List (Int × Int)) (v : Value) (ts : List Tg) (q : Int) (wr : World) : Prop where
  c0 : wr.cell? ⟨d, 0, none⟩ = some (.string id)
  c1 : wr.cell? ⟨d, 1, none⟩ = some (.int .i64 k)
  c2 : wr.cell? ⟨d, 2, none⟩ = some (.slice pa ps.length pc)
  c3 : wr.cell? ⟨d, 3, none⟩ = some v
  soft : ∀ i, wr.frozen? ⟨d, i, none⟩ = false
  r0 : wr.cell? ⟨w.heap.size, 0, none⟩ = some (.string ⟨#[]⟩)
  r1 : wr.cell? ⟨w.heap.size, 1, none⟩ = some (.int .i64 0)
  r2 : wr.cell? ⟨w.heap.size, 2, none⟩ = some (.slice none 0 0)
  r3 : wr.cell? ⟨w.heap.size, 3, none⟩ = some (.slice none 0 0)
  rs : ∀ i, wr.frozen? ⟨w.heap.size, i, none⟩ = false
  own : wr.ownsRow (w.heap.size + 1) 52 2 v ts.length (flatT ts)
  far : v.ownBlock ≠ some d
  pts : PtsAt wr pa ps
  prng : ∀ x, blk pa = some x → w.heap.size < x ∧ x ≠ d ∧ x < wr.heap.size
  rd : Rd wr R a len cap q
  grown : w.grownBy wr (some R)
  apart : ∀ x, blk pa = some x → v.ownBlock ≠ some x

/-- the reader goes on, or memory is made -/
theorem BentLay.read {w wr w' : World} {R : Nat} {a : Option Addr} {len cap d : Nat} {id : ByteArray} {k : Int} {pa : Option Addr} {pc : Nat} {ps : List (Int × Int)} {v : Value} {ts : List Tg} {q q' : Int} (h : BentLay w R a len cap d id k pa pc ps v ts q wr) (hg : wr.grownBy w' (some R)) (hr : Rd w' R a len cap q') (hRw : R < w.heap.size) (hd : w.heap.size < d) : BentLay w R a len cap d id k pa pc ps v ts q' w' := by
  have hdl : d < wr.heap.size := World.block_lt_of_cell? _ _ h.c0
  have hwl : w.heap.size < wr.heap.size := World.block_lt_of_cell? _ _ h.r0
  have nd : some d ≠ some R := by simp; omega
  have nw : some w.heap.size ≠ some R := by simp; omega
  exact ⟨(hg.cell_far _ hdl nd).trans h.c0, (hg.cell_far _ hdl nd).trans h.c1, (hg.cell_far _ hdl nd).trans h.c2, (hg.cell_far _ hdl nd).trans h.c3, fun i => (hg.frozen_far _ hdl nd).trans (h.soft i), (hg.cell_far _ hwl nw).trans h.r0, (hg.cell_far _ hwl nw).trans h.r1, (hg.cell_far _ hwl nw).trans h.r2, (hg.cell_far _ hwl nw).trans h.r3, fun i => (hg.frozen_far _ hwl nw).trans (h.rs i), World.ownsRow.kept h.own hg (.inr fun e => by have := (h.own.lt R e).1; omega), h.far, h.pts.kept hg (fun x hx e => by have := (h.prng x hx).1; simp at e; omega), fun x hx => ⟨(h.prng x hx).1, (h.prng x hx).2.1, Nat.lt_of_lt_of_le (h.prng x hx).2.2 hg.size⟩, hr, h.grown.trans hg, h.apart⟩

/-- a cell of the box is written -/
theorem BentLay.setD {w wr : World} {R : Nat} {a : Option Addr} {len cap d : Nat} {id : ByteArray} {k : Int} {pa : Option Addr} {pc : Nat} {ps : List (Int × Int)} {v : Value} {ts : List Tg} {q : Int} (h : BentLay w R a len cap d id k pa pc ps v ts q wr) (s : ByteArray) (hRw : R < w.heap.size) (hd : w.heap.size < d) (hcd : ∀ i, i < len → blk a ≠ some d) : BentLay w R a len cap d s k pa pc ps v ts q (wr.setCell ⟨d, 0, none⟩ (.string s)) := by
  have hg : wr.grownBy (wr.setCell ⟨d, 0, none⟩ (.string s)) (some d) := grown_set (World.grownBy.refl _ _) _ _
  exact ⟨World.cell?_setCell_same _ _ _ h.c0, (World.cell?_setCell_other _ _ _ _ (by simp)).trans h.c1, (World.cell?_setCell_other _ _ _ _ (by simp)).trans h.c2, (World.cell?_setCell_other _ _ _ _ (by simp)).trans h.c3, fun i => by rw [World.frozen?_setCell]; exact h.soft i, (World.cell?_setCell_other _ _ _ _ (by simp <;> omega)).trans h.r0, (World.cell?_setCell_other _ _ _ _ (by simp <;> omega)).trans h.r1, (World.cell?_setCell_other _ _ _ _ (by simp <;> omega)).trans h.r2, (World.cell?_setCell_other _ _ _ _ (by simp <;> omega)).trans h.r3, fun i => by rw [World.frozen?_setCell]; exact h.rs i, World.ownsRow.kept h.own hg (.inr h.far), h.far, h.pts.kept hg (fun x hx e => by have := (h.prng x hx).2.1; simp at e; omega), fun x hx => ⟨(h.prng x hx).1, (h.prng x hx).2.1, Nat.lt_of_lt_of_le (h.prng x hx).2.2 hg.size⟩, h.rd.kept hg (by simp; omega) hcd, grown_set_new h.grown (by omega), h.apart⟩

/-- another shape is put into the box -/
theorem BentLay.setS {w wr : World} {R : Nat} {a : Option Addr} {len cap d : Nat} {id : ByteArray} {k : Int} {pa : Option Addr} {pc : Nat} {ps : List (Int × Int)} {v : Value} {ts : List Tg} {q : Int} (h : BentLay w R a len cap d id k pa pc ps v ts q wr) (k2 : Int) (pa2 : Option Addr) (pc2 : Nat) (ps2 : List (Int × Int)) (hp2 : PtsAt wr pa2 ps2) (hr2 : ∀ x, blk pa2 = some x → w.heap.size < x ∧ x ≠ d ∧ x < wr.heap.size) (ha2 : ∀ x, blk pa2 = some x → v.ownBlock ≠ some x) (hRw : R < w.heap.size) (hd : w.heap.size < d) (hcd : ∀ i, i < len → blk a ≠ some d) : BentLay w R a len cap d id k2 pa2 pc2 ps2 v ts q ((wr.setCell ⟨d, 1, none⟩ (.int .i64 k2)).setCell ⟨d, 2, none⟩ (.slice pa2 ps2.length pc2)) := by
  have hg : wr.grownBy ((wr.setCell ⟨d, 1, none⟩ (.int .i64 k2)).setCell ⟨d, 2, none⟩ (.slice pa2 ps2.length pc2)) (some d) := grown_set (grown_set (World.grownBy.refl _ _) _ _) _ _
  have o1 : ∀ {o : Nat} {u : Value}, o ≠ 1 → o ≠ 2 → wr.cell? ⟨d, o, none⟩ = some u → ((wr.setCell ⟨d, 1, none⟩ (.int .i64 k2)).setCell ⟨d, 2, none⟩ (.slice pa2 ps2.length pc2)).cell? ⟨d, o, none⟩ = some u := fun h1 h2 hc => (World.cell?_setCell_other _ _ _ _ (by simp <;> omega)).trans ((World.cell?_setCell_other _ _ _ _ (by simp <;> omega)).trans hc)
  have hwl : w.heap.size < wr.heap.size := World.block_lt_of_cell? _ _ h.r0
  have nw : some w.heap.size ≠ some d := by simp; omega
  exact ⟨o1 (by omega) (by omega) h.c0, (World.cell?_setCell_other _ _ _ _ (by simp)).trans (World.cell?_setCell_same _ _ _ h.c1), World.cell?_setCell_same _ _ _ ((World.cell?_setCell_other _ _ _ _ (by simp)).trans h.c2), o1 (by omega) (by omega) h.c3, fun i => by rw [World.frozen?_setCell, World.frozen?_setCell]; exact h.soft i, (hg.cell_far _ hwl nw).trans h.r0, (hg.cell_far _ hwl nw).trans h.r1, (hg.cell_far _ hwl nw).trans h.r2, (hg.cell_far _ hwl nw).trans h.r3, fun i => (hg.frozen_far _ hwl nw).trans (h.rs i), World.ownsRow.kept h.own hg (.inr h.far), h.far, hp2.kept hg (fun x hx e => by have := (hr2 x hx).2.1; simp at e; omega), fun x hx => ⟨(hr2 x hx).1, (hr2 x hx).2.1, Nat.lt_of_lt_of_le (hr2 x hx).2.2 hg.size⟩, h.rd.kept hg (by simp; omega) hcd, grown_set_new (grown_set_new h.grown (by omega)) (by omega), ha2⟩

/-- other tags, appended, are put into the box -/
theorem BentLay.setT {w wr wa : World} {R : Nat} {a : Option Addr} {len cap d : Nat} {id : ByteArray} {k : Int} {pa : Option Addr} {pc : Nat} {ps : List (Int × Int)} {v v' : Value} {ts us : List Tg} {q : Int} {O : Obj} (h : BentLay w R a len cap d id k pa pc ps v ts q wr) (hg0 : (wr.alloc O).grownBy wa v.ownBlock) (ho : wa.ownsRow (w.heap.size + 1) 52 2 v' us.length (flatT us)) (hf : v'.ownBlock ≠ some d) (hap : ∀ x, blk pa = some x → v'.ownBlock ≠ some x) (hRw : R < w.heap.size) (hd : w.heap.size < d) (hcd : ∀ i, i < len → blk a ≠ some d) (hcv : ∀ i, i < len → blk a ≠ v.ownBlock) : BentLay w R a len cap d id k pa pc ps v' us q (wa.setCell ⟨d, 3, none⟩ v') := by
  have hdl : d < wr.heap.size := World.block_lt_of_cell? _ _ h.c0
  have hwl : w.heap.size < wr.heap.size := World.block_lt_of_cell? _ _ h.r0
  have hg1 : wr.grownBy wa v.ownBlock := (World.grownBy_alloc wr O _).trans hg0
  have vl : ∀ x, v.ownBlock = some x → w.heap.size + 1 ≤ x := fun x hx => (h.own.lt x hx).1
  have nd : some d ≠ v.ownBlock := fun e => h.far e.symm
  have nw : some w.heap.size ≠ v.ownBlock := fun e => by have := vl _ e.symm; omega
  have hg : wa.grownBy (wa.setCell ⟨d, 3, none⟩ v') (some d) := grown_set (World.grownBy.refl _ _) _ _
  have s : ∀ {o : Nat} {u : Value}, o ≠ 3 → wr.cell? ⟨d, o, none⟩ = some u → (wa.setCell ⟨d, 3, none⟩ v').cell? ⟨d, o, none⟩ = some u := fun h1 hc => (World.cell?_setCell_other _ _ _ _ (by simp <;> omega)).trans ((hg1.cell_far _ hdl nd).trans hc)
  have r : ∀ {o : Nat} {u : Value}, wr.cell? ⟨w.heap.size, o, none⟩ = some u → (wa.setCell ⟨d, 3, none⟩ v').cell? ⟨w.heap.size, o, none⟩ = some u := fun hc => (World.cell?_setCell_other _ _ _ _ (by simp <;> omega)).trans ((hg1.cell_far _ hwl nw).trans hc)
  refine ⟨s (by omega) h.c0, s (by omega) h.c1, s (by omega) h.c2, World.cell?_setCell_same _ _ _ ((hg1.cell_far _ hdl nd).trans h.c3), fun i => by rw [World.frozen?_setCell, hg1.frozen_far ⟨d, i, none⟩ hdl nd]; exact h.soft i, r h.r0, r h.r1, r h.r2, r h.r3, fun i => by rw [World.frozen?_setCell, hg1.frozen_far ⟨w.heap.size, i, none⟩ hwl nw]; exact h.rs i, World.ownsRow.kept ho hg (.inr hf), hf, (h.pts.kept hg1 (fun x hx e => h.apart x hx e)).kept hg (fun x hx e => by have := (h.prng x hx).2.1; simp at e; omega), fun x hx => ⟨(h.prng x hx).1, (h.prng x hx).2.1, ?_⟩, (h.rd.kept hg1 (fun e => by have := vl R e; omega) hcv).kept hg (by simp; omega) hcd, ?_, hap⟩
  · have h1 := (h.prng x hx).2.2
    have h2 := hg1.size
    have h3 := hg.size
    omega
  · exact grown_set_new ⟨hg1.os.trans h.grown.os, hg1.tape.trans h.grown.tape, hg1.output.trans h.grown.output, Nat.le_trans h.grown.size hg1.size, fun i hi hne => (hg1.block i (Nat.lt_of_lt_of_le hi h.grown.size) (fun e => by have := vl i e.symm; omega)).trans (h.grown.block i hi hne)⟩ (by omega)

/-- what is answered -/
theorem BentLay.fin {w wr : World} {R : Nat} {a : Option Addr} {len cap d : Nat} {id : ByteArray} {k : Int} {pa : Option Addr} {pc : Nat} {ps : List (Int × Int)} {ta : Option Addr} {tc : Nat} {ts : List Tg} {p q : Int} {x0 x1 x2 x3 : Value} (h : BentLay w R a len cap d id k pa pc ps (.slice ta ts.length tc) ts q wr) (hid : id.size ≤ 8) (hps : ps.length ≤ 7) (hts : ts.length ≤ 4) (htl : TagsLen ts 8) (hq : q ≤ p + 130) (hRw : R < w.heap.size) (hcd : ∀ i, i < len → blk a ≠ some w.heap.size) :
    FeatDrawn w R a len cap p 7 4 130 (.returned (.agg #[.string id, .int .i64 k, .slice pa ps.length pc, .slice ta ts.length tc])) ((((wr.setCell ⟨w.heap.size, 0, none⟩ x0).setCell ⟨w.heap.size, 1, none⟩ x1).setCell ⟨w.heap.size, 2, none⟩ x2).setCell ⟨w.heap.size, 3, none⟩ x3) := by
  have hg : wr.grownBy ((((wr.setCell ⟨w.heap.size, 0, none⟩ x0).setCell ⟨w.heap.size, 1, none⟩ x1).setCell ⟨w.heap.size, 2, none⟩ x2).setCell ⟨w.heap.size, 3, none⟩ x3) (some w.heap.size) := grown_set (grown_set (grown_set (grown_set (World.grownBy.refl _ _) _ _) _ _) _ _) _ _
  refine ⟨id, k, _, _, ps, ta, tc, ts, q, rfl, hid, h.pts.kept hg (fun x hx e => by have := (h.prng x hx).1; simp at e; omega), fun x hx => ?_, hps, owns_base (World.ownsRow.kept h.own hg (.inr fun e => by have := (h.own.lt _ e).1; omega)) (by omega), hts, htl, h.rd.kept hg (by simp; omega) hcd, hq, grown_set_new (grown_set_new (grown_set_new (grown_set_new h.grown (Nat.le_refl _)) (Nat.le_refl _)) (Nat.le_refl _)) (Nat.le_refl _), h.apart⟩
  have h1 := (h.prng x hx)
  have h2 := hg.size
  omega

theorem tagsLen_snoc {ts : List Tg} {t : Tg} {m : Int} (h : TagsLen ts m) (ht : (t.1.size : Int) ≤ m ∧ (t.2.size : Int) ≤ m) : TagsLen (ts ++ [t]) m := by
  intro i hi
  by_cases e : i < ts.length
  · have := h i e
    simpa [tk, tv, List.getElem?_append_left e] using this
  · have : i = ts.length := by simp at hi; omega
    subst this
    simpa [tk, tv] using ht

theorem texts_two (w : World) (x y : ByteArray) (t : TypeId) (hx : x.size ≤ 8) (hy : y.size ≤ 8) : TextsAt ((w.alloc (.cells #[.string x, .string y] t)).drew) w.heap.size 2 := by
  intro i hi
  have : i = 0 ∨ i = 1 := by omega
  rcases this with rfl | rfl
  · exact ⟨x, by show (w.alloc (.cells #[.string x, .string y] t)).cell? _ = _; simp [go_sem], hx⟩
  · exact ⟨y, by show (w.alloc (.cells #[.string x, .string y] t)).cell? _ = _; simp [go_sem], hy⟩

theorem HGT {wr wa : World} {O : Obj} {x : Option Nat} {b o : Nat} {v : Value} (hg : (wr.alloc O).grownBy wa x) (hlt : b < wr.heap.size) (hc : wr.cell? ⟨b, o, none⟩ = some v) : x ≠ some b → wa.cell? ⟨b, o, none⟩ = some v := fun hne =>
  (hg.cell_far ⟨b, o, none⟩ (by simp; omega) (Ne.symm hne)).trans ((World.cell?_of_block (w := wr) (Below.heap_alloc _ _ _ hlt)).trans hc)

set_option maxRecDepth 100000 in
set_option maxHeartbeats 8000000 in
theorem l2Bent_any (R : Nat) (a : Option Addr) (len cap : Nat) (p : Int) (w : World) (h : Rd w R a len cap p) (hp : p ≤ 60000) (hl : len ≤ 2000) :
    Calls Try.prog 55 #[.pointer (some ⟨R, 0, none⟩)] w (FeatDrawn w R a len cap p 7 4 130) := by
  have HR := Lib.hid h
  have hRlt := h.lt
  have hcode : Hid (∀ c, w.heap.size ≤ c → ∀ i, i < len → blk a ≠ some c) := fun c hc => h.codeLt hc
  obtain ⟨i0, hi, hz0, hz1, hz2⟩ := info_parts infoT
  have HI := Lib.hid hi
  have HZ0 := Lib.hid hz0
  have HZ1 := Lib.hid hz1
  have HZ2 := Lib.hid hz2
  clear h hi hz0 hz1 hz2
  go_enter Try.func55, Try.ntmps55
  go_wp2_with fail
  refine (l2Id_any _ _ _ _ _ _ (HR.out.alloc _) (by omega) hl).mono ?_
  rintro e u1 ⟨id0, rfl, hids, hr1, hg1⟩
  have nw : some w.heap.size ≠ some R := by simp; omega
  obtain ⟨g0, g1, g2, g3⟩ := Box4.new w (.string ⟨#[]⟩) (.int .i64 0) (.slice none 0 0) (.slice none 0 0) 43
  have D1 := Lib.hid hr1
  have s1 := hg1.size
  simp only [World.size_alloc] at s1
  have HG1 := Lib.hid hg1
  clear hr1 hg1
  go_wp2_with fail
  refine (l2Feat_any R a len cap _ id0 _ D1.out (by omega) hl hids).mono ?_
  rintro e w1 ⟨id, k, pa, pc, ps, ta, tc, ts, p1, rfl, hid, hpt, hpr, hpl, hown, htl, hts, hr, hp1, hg, hap⟩
  have hgw : (w.alloc (.cells #[.string ⟨#[]⟩, .int .i64 0, .slice none 0 0, .slice none 0 0] 43)).grownBy w1 (some R) := HG1.out.trans hg
  have s2 := hg.size
  have z1 : w.heap.size < w1.heap.size := by omega
  have L0 : Hid (BentLay w R a len cap w1.heap.size id k pa pc ps (.slice ta ts.length tc) ts p1 (w1.alloc (.cells #[.string id, .int .i64 k, .slice pa ps.length pc, .slice ta ts.length tc] 43))) := by
    have hb : Below w1.heap.size w1 (w1.alloc (.cells #[.string id, .int .i64 k, .slice pa ps.length pc, .slice ta ts.length tc] 43)) := (Below.refl _ _).alloc (Nat.le_refl _) _
    obtain ⟨q0, q1, q2, q3⟩ := Box4.new w1 (.string id) (.int .i64 k) (.slice pa ps.length pc) (.slice ta ts.length tc) 43
    refine ⟨q0, q1, q2, q3, fun i => by simp [go_sem], cell_later hb ((hgw.cell_far _ (by simp) nw).trans g0), cell_later hb ((hgw.cell_far _ (by simp) nw).trans g1), cell_later hb ((hgw.cell_far _ (by simp) nw).trans g2), cell_later hb ((hgw.cell_far _ (by simp) nw).trans g3), fun i => ?_, owns_base (ownsRow_below hown hb) (by omega), fun e => by have := (hown.lt _ e).2; omega, hpt.below hb, fun x hx => ?_, hr.alloc _, ((World.grownBy_alloc w _ _).trans hgw).trans (grown_low _ hb), hap⟩
    · rw [hb.frozen (p := ⟨w.heap.size, i, none⟩) z1, hgw.frozen_far ⟨w.heap.size, i, none⟩ (by simp) nw]
      simp [go_sem]
    · have := hpr x hx
      simp
      omega
  have TL := Lib.hid hts
  clear hown hr hg g0 g1 g2 g3 hpt hpr hts hgw HG1 D1 hap
  go_upto_region 2 with (fail)
  generalize (w1.alloc (.cells #[.string id, .int .i64 k, .slice pa ps.length pc, .slice ta ts.length tc] 43)) = W at *
  generalize hd : w1.heap.size = d at *
  have CD := Lib.hid (hcode.out d (by omega))
  go_wp2_with fail
  refine (pick_any _ _ _ _ _ _ _ L0.out.rd (by omega) hl (by omega) (by omega)).mono ?_
  rintro e w2 ⟨x, rfl, hx0, hx1, hr, hg, hs⟩
  have L1 := Lib.hid (L0.out.read hg hr hRlt z1)
  obtain ⟨X, rfl⟩ : ∃ X : Nat, x = (X : Int) := ⟨x.toNat, by omega⟩
  clear hr hg hs L0
  have FIN : Hid (∀ (wr : World) (id : ByteArray) (k : Int) (pa : Option Addr) (pc : Nat) (ps : List (Int × Int)) (ta : Option Addr) (tc : Nat) (ts : List Tg) (q : Int) (x0 x1 x2 x3 : Value), BentLay w R a len cap d id k pa pc ps (.slice ta ts.length tc) ts q wr → id.size ≤ 8 → ps.length ≤ 7 → ts.length ≤ 4 → TagsLen ts 8 → q ≤ p + 130 → FeatDrawn w R a len cap p 7 4 130 (.returned (.agg #[.string id, .int .i64 k, .slice pa ps.length pc, .slice ta ts.length tc])) ((((wr.setCell ⟨w.heap.size, 0, none⟩ x0).setCell ⟨w.heap.size, 1, none⟩ x1).setCell ⟨w.heap.size, 2, none⟩ x2).setCell ⟨w.heap.size, 3, none⟩ x3)) := fun wr id k pa pc ps ta tc ts q x0 x1 x2 x3 hL h1 h2 h3 h4 h5 => hL.fin h1 h2 h3 h4 h5 hRlt (hcode.out _ (Nat.le_refl _))
  have FIN2 : Hid (∀ (wr : World) (id : ByteArray) (k : Int) (pa : Option Addr) (pc : Nat) (ps : List (Int × Int)) (v : Value) (ta : Option Addr) (tc : Nat) (ts : List Tg) (q : Int) (x0 x1 x2 x3 : Value), BentLay w R a len cap d id k pa pc ps v ts q wr → v = .slice ta ts.length tc → id.size ≤ 8 → ps.length ≤ 7 → ts.length ≤ 4 → TagsLen ts 8 → q ≤ p + 130 → FeatDrawn w R a len cap p 7 4 130 (.returned (.agg #[.string id, .int .i64 k, .slice pa ps.length pc, v])) ((((wr.setCell ⟨w.heap.size, 0, none⟩ x0).setCell ⟨w.heap.size, 1, none⟩ x1).setCell ⟨w.heap.size, 2, none⟩ x2).setCell ⟨w.heap.size, 3, none⟩ x3)) := fun wr id k pa pc ps v ta tc ts q x0 x1 x2 x3 hL hv h1 h2 h3 h4 h5 => by subst hv; exact FIN.out _ _ _ _ _ _ _ _ _ _ _ _ _ _ hL h1 h2 h3 h4 h5
  have nd1 : ¬ d = w.heap.size := by omega
  have nd2 : ¬ w.heap.size = d := by omega
  by_cases e0 : X = 0
  · subst e0
    go_wp2_with fail
    refine (of_any R w2.heap.size 3 a len cap _ _ (L1.out.rd.alloc _) (by omega) hl (fun i hi => ?_) (by have := L1.out.rd.lt; omega) (by omega) (by omega)).mono ?_
    · have : i = 0 ∨ i = 1 ∨ i = 2 := by omega
      rcases this with rfl | rfl | rfl
      · exact ⟨⟨#[]⟩, by simp [go_sem], by decide⟩
      · exact ⟨⟨#[65]⟩, by simp [go_sem], by decide⟩
      · exact ⟨⟨#[97, 98, 99, 100, 101, 102, 103]⟩, by simp [go_sem], by decide⟩
    rintro e w3 ⟨s, rfl, hss, hr, hg⟩
    have L2 := Lib.hid (L1.out.read ((World.grownBy_alloc w2 _ _).trans hg) hr hRlt z1)
    have L3 := Lib.hid (L2.out.setD s hRlt z1 CD.out)
    clear hr hg L1
    have c0 := L2.out.c0
    have c1 := L2.out.c1
    have c2 := L2.out.c2
    have c3 := L2.out.c3
    have r0 := L2.out.r0
    have r1 := L2.out.r1
    have r2 := L2.out.r2
    have r3 := L2.out.r3
    have t0 := L2.out.rs 0
    have t1 := L2.out.rs 1
    have t2 := L2.out.rs 2
    have t3 := L2.out.rs 3
    have s0 := L2.out.soft 0
    have s1 := L2.out.soft 1
    have s2 := L2.out.soft 2
    have s3 := L2.out.soft 3
    go_wp2
    refine bodyPost_ret (v := .agg #[.string s, .int .i64 k, .slice pa ps.length pc, .slice ta ts.length tc]) (by simp [results, Try.results55, go_sem, r0, r1, r2, r3]) rfl ?_
    exact FIN.out _ _ _ _ _ _ _ _ _ _ _ _ _ _ L3.out hss (by omega) (by omega) TL.out (by omega)
  by_cases e1 : X = 1
  · subst e1
    go_wp2_with fail
    refine (l1Bent_any R a len cap _ _ L1.out.rd (by omega) hl).mono ?_
    rintro e w3 ⟨k3, g3, c3', ps3, p3, rfl, hpt3, _, ⟨hg3a, hg3b⟩, hps3, hr, hp3, hg⟩
    have zd : d < w2.heap.size := World.block_lt_of_cell? _ _ L1.out.c0
    have L2 := Lib.hid (L1.out.read hg hr hRlt z1)
    have L3 := Lib.hid (L2.out.setS k3 (some ⟨g3, 0, none⟩) c3' ps3 hpt3 (fun x hx => by simp [blk] at hx; omega) (fun x hx e => by have := (L1.out.own.lt x e).2; simp [blk] at hx; omega) hRlt z1 CD.out)
    clear hr hg L1 hpt3
    have c0 := L2.out.c0
    have c1 := L2.out.c1
    have c2 := L2.out.c2
    have c3 := L2.out.c3
    have r0 := L2.out.r0
    have r1 := L2.out.r1
    have r2 := L2.out.r2
    have r3 := L2.out.r3
    have t0 := L2.out.rs 0
    have t1 := L2.out.rs 1
    have t2 := L2.out.rs 2
    have t3 := L2.out.rs 3
    have s0 := L2.out.soft 0
    have s1 := L2.out.soft 1
    have s2 := L2.out.soft 2
    have s3 := L2.out.soft 3
    go_wp2
    refine bodyPost_ret (v := .agg #[.string id, .int .i64 k3, .slice (some ⟨g3, 0, none⟩) ps3.length c3', .slice ta ts.length tc]) (by simp [results, Try.results55, go_sem, r0, r1, r2, r3]) rfl ?_
    exact FIN.out _ _ _ _ _ _ _ _ _ _ _ _ _ _ L3.out hid (by omega) (by omega) TL.out (by omega)
  by_cases e2 : X = 2
  · subst e2
    obtain ⟨us, hus0⟩ : ∃ us : List Tg, us = ts ++ [((⟨#[97]⟩ : ByteArray), (⟨#[98]⟩ : ByteArray))] := ⟨_, rfl⟩
    have hul : us.length = ts.length + 1 := by rw [hus0]; simp
    have TU : Hid (TagsLen us 8) := by rw [hus0]; exact tagsLen_snoc TL.out (by decide)
    have hus := Lib.hid hus0
    clear hus0
    have zd : d < w2.heap.size := World.block_lt_of_cell? _ _ L1.out.c0
    have c0 := L1.out.c0
    have c1 := L1.out.c1
    have c2 := L1.out.c2
    have c3 := L1.out.c3
    have r0 := L1.out.r0
    have r1 := L1.out.r1
    have r2 := L1.out.r2
    have r3 := L1.out.r3
    have t0 := L1.out.rs 0
    have t1 := L1.out.rs 1
    have t2 := L1.out.rs 2
    have t3 := L1.out.rs 3
    have s0 := L1.out.soft 0
    have s1 := L1.out.soft 1
    have s2 := L1.out.soft 2
    have s3 := L1.out.soft 3
    go_wp2_with (at_builtin; refine wpList_append_lies _ (by rfl) _ _ _ (by rfl) (w.heap.size + 1) 52 i0 _ 2 32 Try.underlying41 HI.out HZ0.out HZ1.out HZ2.out rfl (by omega) (.slice ta ts.length tc) ts.length (flatT ts) (by rfl) (L1.out.own.alloc _) ⟨w2.heap.size, 0, none⟩ 1 1 [.string ⟨#[97]⟩, .string ⟨#[98]⟩] (by rfl) (by rfl) (World.news_of_block (cs := #[.string ⟨#[97]⟩, .string ⟨#[98]⟩]) (t := 52) (fr := (0, 0)) (heap_alloc_new w2 _)) (by simp [Value.oneCell']) (by omega) (by unfold maxLen; omega) (by omega) (by simp; omega) (w2.heap.size + 1) (by simp) ?_; intro gg cap' wa hown1 hgrow hat hlt'; have ho2 : wa.ownsRow (w.heap.size + 1) 52 2 (.slice (some ⟨gg, 0, none⟩) (ts.length + 1) cap') us.length (flatT us) := (by rw [hul, hus.out, flatT_snoc]; simpa using hown1); have hfd : gg ≠ d := (by rcases hat with h | h; (exact fun e => L1.out.far (h.trans (by rw [e]))); omega); have hfx : ∀ x, blk pa = some x → gg ≠ x := (fun x hx => by rcases hat with h | h; (exact fun e => L1.out.apart x hx (h.trans (by rw [e]))); (have := (L1.out.prng x hx).2.2; omega)); have L3 := Lib.hid (L1.out.setT (v' := .slice (some ⟨gg, 0, none⟩) (ts.length + 1) cap') (us := us) hgrow ho2 (fun e => hfd (by simpa [Value.ownBlock] using e)) (fun x hx e => hfx x hx (by simpa [Value.ownBlock] using e)) hRlt z1 CD.out (fun i hi e => by obtain ⟨b, off, c, e2, hlt2, _⟩ := HR.out.bytes i hi; rw [e2] at e; have := (L1.out.own.lt b e.symm).1; omega)); have gd' : wa.cell? ⟨d, 0, none⟩ = some (.string id) := HGT hgrow zd c0 L1.out.far; have gd1 : wa.cell? ⟨d, 1, none⟩ = some (.int .i64 k) := HGT hgrow zd c1 L1.out.far; have gd2 : wa.cell? ⟨d, 2, none⟩ = some (.slice pa ps.length pc) := HGT hgrow zd c2 L1.out.far; have gd3 : wa.cell? ⟨d, 3, none⟩ = some (.slice ta ts.length tc) := HGT hgrow zd c3 L1.out.far; have gs3 : wa.frozen? ⟨d, 3, none⟩ = false := (hgrow.frozen_far ⟨d, 3, none⟩ (by simp; omega) (fun e => L1.out.far e.symm)).trans ((Below.frozen (p := ⟨d, 3, none⟩) ((Below.refl w2.heap.size w2).alloc (Nat.le_refl _) _) zd).trans s3); have m0 := L3.out.r0; have m1 := L3.out.r1; have m2 := L3.out.r2; have m3 := L3.out.r3; have n0 := L3.out.rs 0; have n1 := L3.out.rs 1; have n2 := L3.out.rs 2; have n3 := L3.out.rs 3)
    have q0 := L3.out.r0
    have q1 := L3.out.r1
    have q2 := L3.out.r2
    have q3 := L3.out.r3
    refine bodyPost_ret (v := .agg #[.string id, .int .i64 k, .slice pa ps.length pc, .slice (some ⟨gg, 0, none⟩) (ts.length + 1) cap']) (by simp [results, Try.results55, go_sem, q0, q1, q2, q3]) rfl ?_
    exact FIN2.out _ _ _ _ _ _ _ (some ⟨gg, 0, none⟩) cap' us _ _ _ _ _ L3.out (by rw [hul]) hid (by omega) (by omega) TU.out (by omega)
  by_cases e3 : X = 3
  · subst e3
    have zd : d < w2.heap.size := World.block_lt_of_cell? _ _ L1.out.c0
    have hRw2 := L1.out.rd.lt
    have c3 := L1.out.c3
    have s3 := L1.out.soft 3
    go_upto_region 10 with (fail)
    go_region_law (first
      | (refine step_append_lies _ (by rfl) _ _ _ (by rfl) (w.heap.size + 1) 52 i0 _ 2 32 Try.underlying41 HI.out HZ0.out HZ1.out HZ2.out rfl (by omega) (.slice ta ts.length tc) ts.length (flatT ts) (by rfl) (L2.out.own.alloc _) ⟨w3.heap.size, 0, none⟩ 1 1 [.string ⟨#[122, 122]⟩, .string s] (by rfl) (by rfl) (World.news_of_block (cs := #[.string ⟨#[122, 122]⟩, .string s]) (t := 52) (fr := (0, 0)) (heap_alloc_new w3 _)) (by simp [Value.oneCell']) (by omega) (by unfold maxLen; omega) (by omega) (by simp; omega) (w3.heap.size + 1) (by simp) ?_; intro gg cap' wa hown1 hgrow hat hlt'; obtain ⟨us, hus⟩ : ∃ us : List Tg, us = ts ++ [((⟨#[122, 122]⟩ : ByteArray), s)] := ⟨_, rfl⟩; have hul : us.length = ts.length + 1 := (by rw [hus]; simp); have TU : Hid (TagsLen us 8) := (by rw [hus]; exact tagsLen_snoc TL.out ⟨by show ((2 : Nat) : Int) ≤ 8; omega, by show (s.size : Int) ≤ 8; omega⟩); have ho2 : wa.ownsRow (w.heap.size + 1) 52 2 (.slice (some ⟨gg, 0, none⟩) (ts.length + 1) cap') us.length (flatT us) := (by rw [hul, hus, flatT_snoc]; simpa using hown1); have hfd : gg ≠ d := (by rcases hat with h | h; (exact fun e => L2.out.far (h.trans (by rw [e]))); omega); have hfx : ∀ x, blk pa = some x → gg ≠ x := (fun x hx => by rcases hat with h | h; (exact fun e => L2.out.apart x hx (h.trans (by rw [e]))); (have := (L2.out.prng x hx).2.2; omega)); have L3 := Lib.hid (L2.out.setT (v' := .slice (some ⟨gg, 0, none⟩) (ts.length + 1) cap') (us := us) hgrow ho2 (fun e => hfd (by simpa [Value.ownBlock] using e)) (fun x hx e => hfx x hx (by simpa [Value.ownBlock] using e)) hRlt z1 CD.out (fun i hi e => by obtain ⟨b, off, c, e2, hlt2, _⟩ := HR.out.bytes i hi; rw [e2] at e; have := (L2.out.own.lt b e.symm).1; omega)); have gd3 : wa.cell? ⟨d, 3, none⟩ = some (.slice ta ts.length tc) := HGT hgrow zd3 c3k L2.out.far; have gs3 : wa.frozen? ⟨d, 3, none⟩ = false := (hgrow.frozen_far ⟨d, 3, none⟩ (by simp; omega) (fun e => L2.out.far e.symm)).trans ((Below.frozen (p := ⟨d, 3, none⟩) ((Below.refl w3.heap.size w3).alloc (Nat.le_refl _) _) zd3).trans s3k); clear hus)
      | (go_simp; go_at_call 56; refine (of_any R w2.heap.size 2 a len cap _ _ ((L1.out.rd.alloc _).drew) (by omega) hl (texts_two w2 _ _ _ (by decide) (by decide)) (by omega) (by omega) (by omega)).mono ?_; rintro e w3 ⟨s, rfl, hss, hr3, hg3⟩; have L2 := Lib.hid (L1.out.read ((World.grownBy_alloc w2 (.cells #[.string ⟨#[]⟩, .string ⟨#[66]⟩] 9) (some R)).trans (show World.grownBy (w2.alloc _) w3 (some R) from ⟨hg3.os, hg3.tape, hg3.output, hg3.size, hg3.block⟩)) hr3 hRlt z1); have c3k := L2.out.c3; have s3k := L2.out.soft 3; have zd3 : d < w3.heap.size := World.block_lt_of_cell? _ _ c3k; clear hr3 hg3; dsimp only))
    all_goals
      have k0 := L3.out.c0
      have k1 := L3.out.c1
      have k2 := L3.out.c2
      have k3 := L3.out.c3
      have m0 := L3.out.r0
      have m1 := L3.out.r1
      have m2 := L3.out.r2
      have m3 := L3.out.r3
      have n0 := L3.out.rs 0
      have n1 := L3.out.rs 1
      have n2 := L3.out.rs 2
      have n3 := L3.out.rs 3
      clear gd3 gs3 c3k s3k c3 s3
      generalize wa.setCell ⟨d, 3, none⟩ (.slice (some ⟨gg, 0, none⟩) (ts.length + 1) cap') = wb at *
      go_wp2
      refine bodyPost_ret (v := .agg #[.string id, .int .i64 k, .slice pa ps.length pc, .slice (some ⟨gg, 0, none⟩) (ts.length + 1) cap']) (by simp [results, Try.results55, go_sem, m0, m1, m2, m3]) rfl ?_
      exact FIN2.out _ _ _ _ _ _ _ (some ⟨gg, 0, none⟩) cap' us _ _ _ _ _ L3.out (by rw [hul]) hid (by omega) (by omega) TU.out (by omega)
  have b0 : ((X : Int) == 0) = false := by simp; omega
  have b1 : ((X : Int) == 1) = false := by simp; omega
  have b2 : ((X : Int) == 2) = false := by simp; omega
  have b3 : ((X : Int) == 3) = false := by simp; omega
  have c0 := L1.out.c0
  have c1 := L1.out.c1
  have c2 := L1.out.c2
  have c3 := L1.out.c3
  have r0 := L1.out.r0
  have r1 := L1.out.r1
  have r2 := L1.out.r2
  have r3 := L1.out.r3
  have t0 := L1.out.rs 0
  have t1 := L1.out.rs 1
  have t2 := L1.out.rs 2
  have t3 := L1.out.rs 3
  go_wp2
  refine bodyPost_ret (v := .agg #[.string id, .int .i64 k, .slice pa ps.length pc, .slice ta ts.length tc]) (by simp [results, Try.results55, go_sem, r0, r1, r2, r3]) rfl ?_
  exact FIN.out _ _ _ _ _ _ _ _ _ _ _ _ _ _ L1.out hid (by omega) (by omega) TL.out (by omega)
end Go.Proofs.Ytdfadpejddhbkaa
