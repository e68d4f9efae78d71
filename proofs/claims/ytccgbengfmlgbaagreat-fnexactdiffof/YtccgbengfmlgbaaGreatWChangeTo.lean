/- Proved here: a change, and a list of changes, is copied part by part into memory of its own; rows of at most 1,048,576. -/
import Derived.Test.YtccgbengfmlgbaaGreatWChange
namespace Go.Proofs.YtccgbengfmlgbaaGreat
set_option linter.unusedVariables false
open Go.ChangeShapes Go.WideShapes Go.ChangeAt Go.RowKit

/-- four rows of their own, each a part of a change -/
structure Rows4 (w : World) (lo : Nat) (f g : Ft) (b1 b2 b3 b4 : Nat) : Prop where
  r1 : w.rowIs b1 141 (f.2.2.1.length * 2) (ptCell f.2.2.1)
  r2 : w.rowIs b2 78 (f.2.2.2.length * 2) (tagCell f.2.2.2)
  r3 : w.rowIs b3 141 (g.2.2.1.length * 2) (ptCell g.2.2.1)
  r4 : w.rowIs b4 78 (g.2.2.2.length * 2) (tagCell g.2.2.2)
  far : lo ≤ b1 ∧ lo ≤ b2 ∧ lo ≤ b3 ∧ lo ≤ b4
  apart : b1 ≠ b2 ∧ b3 ≠ b4 ∧ b1 < b3 ∧ b1 < b4 ∧ b2 < b3 ∧ b2 < b4

theorem Rows4.below {w w' : World} {lo : Nat} {f g : Ft} {b1 b2 b3 b4 : Nat} (h : Rows4 w lo f g b1 b2 b3 b4) (hb : Below w.heap.size w w') : Rows4 w' lo f g b1 b2 b3 b4 :=
  ⟨h.r1.of_block (hb.block _ h.r1.lt), h.r2.of_block (hb.block _ h.r2.lt), h.r3.of_block (hb.block _ h.r3.lt), h.r4.of_block (hb.block _ h.r4.lt), h.far, h.apart⟩

theorem Rows4.set {w : World} {lo b : Nat} {f g : Ft} {b1 b2 b3 b4 : Nat} (h : Rows4 w lo f g b1 b2 b3 b4) (o : Nat) (v : Value) (hl : b < lo) : Rows4 (w.setCell ⟨b, o, none⟩ v) lo f g b1 b2 b3 b4 := by
  obtain ⟨x1, x2, x3, x4⟩ := h.far
  exact ⟨h.r1.setOther (by simp; omega) _, h.r2.setOther (by simp; omega) _, h.r3.setOther (by simp; omega) _, h.r4.setOther (by simp; omega) _, h.far, h.apart⟩

theorem Rows4.lt {w : World} {lo : Nat} {f g : Ft} {b1 b2 b3 b4 : Nat} (h : Rows4 w lo f g b1 b2 b3 b4) : b1 < w.heap.size ∧ b2 < w.heap.size ∧ b3 < w.heap.size ∧ b4 < w.heap.size := ⟨h.r1.lt, h.r2.lt, h.r3.lt, h.r4.lt⟩

/-- what 'toChange' answers: a change whose parts lie in four rows of their own -/
def NewChange (w : World) (i : ByteArray) (h : Bool) (f : Ft) (s : Bool) (g : Ft) (e : Ending) (w' : World) : Prop :=
  ∃ b1 b2 b3 b4, e = .returned (.agg #[.string i, .bool h, .string f.1, .int .i64 f.2.1, .slice (some ⟨b1, 0, none⟩) f.2.2.1.length f.2.2.1.length, .slice (some ⟨b2, 0, none⟩) f.2.2.2.length f.2.2.2.length, .bool s, .string g.1, .int .i64 g.2.1, .slice (some ⟨b3, 0, none⟩) g.2.2.1.length g.2.2.1.length, .slice (some ⟨b4, 0, none⟩) g.2.2.2.length g.2.2.2.length]) ∧ Rows4 w' (w.heap.size + 3) f g b1 b2 b3 b4 ∧ Below w.heap.size w w'

set_option maxRecDepth 100000 in
set_option maxHeartbeats 8000000 in
theorem toChange_any (i : ByteArray) (h : Bool) (f : Ft) (s : Bool) (g : Ft) (pa : Option Addr) (pc : Nat) (ta : Option Addr) (tc : Nat) (qa : Option Addr) (qc : Nat) (ua : Option Addr) (uc : Nat) (w : World) (hp : PtsAt w pa f.2.2.1) (ht : TagsAt w ta f.2.2.2) (hq : PtsAt w qa g.2.2.1) (hu : TagsAt w ua g.2.2.2) (l1 : f.2.2.1.length ≤ 1048576) (l2 : f.2.2.2.length ≤ 1048576) (l3 : g.2.2.1.length ≤ 1048576) (l4 : g.2.2.2.length ≤ 1048576) :
    Calls Tryz.prog 75 #[.agg #[.string i, .bool h, .string f.1, .int .i64 f.2.1, .slice pa f.2.2.1.length pc, .slice ta f.2.2.2.length tc, .bool s, .string g.1, .int .i64 g.2.1, .slice qa g.2.2.1.length qc, .slice ua g.2.2.2.length uc]] w (NewChange w i h f s g) := by
  have HP := Lib.hid hp
  have HT := Lib.hid ht
  have HQ := Lib.hid hq
  have HU := Lib.hid hu
  clear hp ht hq hu
  have A3 : Hid (∀ o o' o'', Below w.heap.size w (((w.alloc o).alloc o').alloc o'')) := fun o o' o'' => (((Below.refl _ _).alloc (Nat.le_refl _) _).alloc (by simp) _).alloc (by simp; omega) _
  go_enter Tryz.func75, Tryz.ntmps75
  go_wp2_with fail
  refine (toFeat_any _ _ _ _ _ _ _ _ _ (HP.out.below (A3.out _ _ _)) (HT.out.below (A3.out _ _ _)) l1 l2).mono ?_
  rintro e w1 ⟨b1, b2, rfl, hr1, hr2, hb1, hb2, hne, hbel⟩
  have R1 := Lib.hid hr1
  have R2 := Lib.hid hr2
  have B1 : Hid (Below w.heap.size w w1) := (A3.out _ _ _).trans (hbel.mono (by simp; omega))
  obtain ⟨hc, hf⟩ := bcell hbel
  have hz := hbel.size
  simp only [World.size_alloc] at hz hb1 hb2
  clear hr1 hr2 hbel
  have d0 : w1.cell? ⟨w.heap.size + 1 + 1, 0, none⟩ = some (.string i) := by rw [hc _ _ (by simp)]; simp [go_sem]
  have d1 : w1.cell? ⟨w.heap.size + 1 + 1, 1, none⟩ = some (.bool h) := by rw [hc _ _ (by simp)]; simp [go_sem]
  have d2 : w1.cell? ⟨w.heap.size + 1 + 1, 2, none⟩ = some (.string ⟨#[]⟩) := by rw [hc _ _ (by simp)]; simp [go_sem]
  have d3 : w1.cell? ⟨w.heap.size + 1 + 1, 3, none⟩ = some (.int .i64 0) := by rw [hc _ _ (by simp)]; simp [go_sem]
  have d4 : w1.cell? ⟨w.heap.size + 1 + 1, 4, none⟩ = some (.slice none 0 0) := by rw [hc _ _ (by simp)]; simp [go_sem]
  have d5 : w1.cell? ⟨w.heap.size + 1 + 1, 5, none⟩ = some (.slice none 0 0) := by rw [hc _ _ (by simp)]; simp [go_sem]
  have d6 : w1.cell? ⟨w.heap.size + 1 + 1, 6, none⟩ = some (.bool false) := by rw [hc _ _ (by simp)]; simp [go_sem]
  have d7 : w1.cell? ⟨w.heap.size + 1 + 1, 7, none⟩ = some (.string ⟨#[]⟩) := by rw [hc _ _ (by simp)]; simp [go_sem]
  have d8 : w1.cell? ⟨w.heap.size + 1 + 1, 8, none⟩ = some (.int .i64 0) := by rw [hc _ _ (by simp)]; simp [go_sem]
  have d9 : w1.cell? ⟨w.heap.size + 1 + 1, 9, none⟩ = some (.slice none 0 0) := by rw [hc _ _ (by simp)]; simp [go_sem]
  have d10 : w1.cell? ⟨w.heap.size + 1 + 1, 10, none⟩ = some (.slice none 0 0) := by rw [hc _ _ (by simp)]; simp [go_sem]
  have f2 : w1.frozen? ⟨w.heap.size + 1 + 1, 2, none⟩ = false := by rw [hf _ _ (by simp)]; simp [go_sem]
  have f3 : w1.frozen? ⟨w.heap.size + 1 + 1, 3, none⟩ = false := by rw [hf _ _ (by simp)]; simp [go_sem]
  have f4 : w1.frozen? ⟨w.heap.size + 1 + 1, 4, none⟩ = false := by rw [hf _ _ (by simp)]; simp [go_sem]
  have f5 : w1.frozen? ⟨w.heap.size + 1 + 1, 5, none⟩ = false := by rw [hf _ _ (by simp)]; simp [go_sem]
  have f6 : w1.frozen? ⟨w.heap.size + 1 + 1, 6, none⟩ = false := by rw [hf _ _ (by simp)]; simp [go_sem]
  have f7 : w1.frozen? ⟨w.heap.size + 1 + 1, 7, none⟩ = false := by rw [hf _ _ (by simp)]; simp [go_sem]
  have f8 : w1.frozen? ⟨w.heap.size + 1 + 1, 8, none⟩ = false := by rw [hf _ _ (by simp)]; simp [go_sem]
  have f9 : w1.frozen? ⟨w.heap.size + 1 + 1, 9, none⟩ = false := by rw [hf _ _ (by simp)]; simp [go_sem]
  have f10 : w1.frozen? ⟨w.heap.size + 1 + 1, 10, none⟩ = false := by rw [hf _ _ (by simp)]; simp [go_sem]
  have g0 : w1.cell? ⟨w.heap.size + 1, 0, none⟩ = some (.string ⟨#[]⟩) := by rw [hc _ _ (by simp)]; simp [go_sem]
  have g1 : w1.cell? ⟨w.heap.size + 1, 1, none⟩ = some (.bool false) := by rw [hc _ _ (by simp)]; simp [go_sem]
  have g2 : w1.cell? ⟨w.heap.size + 1, 2, none⟩ = some (.string ⟨#[]⟩) := by rw [hc _ _ (by simp)]; simp [go_sem]
  have g3 : w1.cell? ⟨w.heap.size + 1, 3, none⟩ = some (.int .i64 0) := by rw [hc _ _ (by simp)]; simp [go_sem]
  have g4 : w1.cell? ⟨w.heap.size + 1, 4, none⟩ = some (.slice none 0 0) := by rw [hc _ _ (by simp)]; simp [go_sem]
  have g5 : w1.cell? ⟨w.heap.size + 1, 5, none⟩ = some (.slice none 0 0) := by rw [hc _ _ (by simp)]; simp [go_sem]
  have g6 : w1.cell? ⟨w.heap.size + 1, 6, none⟩ = some (.bool false) := by rw [hc _ _ (by simp)]; simp [go_sem]
  have g7 : w1.cell? ⟨w.heap.size + 1, 7, none⟩ = some (.string ⟨#[]⟩) := by rw [hc _ _ (by simp)]; simp [go_sem]
  have g8 : w1.cell? ⟨w.heap.size + 1, 8, none⟩ = some (.int .i64 0) := by rw [hc _ _ (by simp)]; simp [go_sem]
  have g9 : w1.cell? ⟨w.heap.size + 1, 9, none⟩ = some (.slice none 0 0) := by rw [hc _ _ (by simp)]; simp [go_sem]
  have g10 : w1.cell? ⟨w.heap.size + 1, 10, none⟩ = some (.slice none 0 0) := by rw [hc _ _ (by simp)]; simp [go_sem]
  have k0 : w1.frozen? ⟨w.heap.size + 1, 0, none⟩ = false := by rw [hf _ _ (by simp)]; simp [go_sem]
  have k1 : w1.frozen? ⟨w.heap.size + 1, 1, none⟩ = false := by rw [hf _ _ (by simp)]; simp [go_sem]
  have k2 : w1.frozen? ⟨w.heap.size + 1, 2, none⟩ = false := by rw [hf _ _ (by simp)]; simp [go_sem]
  have k3 : w1.frozen? ⟨w.heap.size + 1, 3, none⟩ = false := by rw [hf _ _ (by simp)]; simp [go_sem]
  have k4 : w1.frozen? ⟨w.heap.size + 1, 4, none⟩ = false := by rw [hf _ _ (by simp)]; simp [go_sem]
  have k5 : w1.frozen? ⟨w.heap.size + 1, 5, none⟩ = false := by rw [hf _ _ (by simp)]; simp [go_sem]
  have k6 : w1.frozen? ⟨w.heap.size + 1, 6, none⟩ = false := by rw [hf _ _ (by simp)]; simp [go_sem]
  have k7 : w1.frozen? ⟨w.heap.size + 1, 7, none⟩ = false := by rw [hf _ _ (by simp)]; simp [go_sem]
  have k8 : w1.frozen? ⟨w.heap.size + 1, 8, none⟩ = false := by rw [hf _ _ (by simp)]; simp [go_sem]
  have k9 : w1.frozen? ⟨w.heap.size + 1, 9, none⟩ = false := by rw [hf _ _ (by simp)]; simp [go_sem]
  have k10 : w1.frozen? ⟨w.heap.size + 1, 10, none⟩ = false := by rw [hf _ _ (by simp)]; simp [go_sem]
  have a6 : w1.cell? ⟨w.heap.size, 6, none⟩ = some (.bool s) := by rw [hc _ _ (by simp; omega)]; simp [go_sem]
  have a7 : w1.cell? ⟨w.heap.size, 7, none⟩ = some (.string g.1) := by rw [hc _ _ (by simp; omega)]; simp [go_sem]
  have a8 : w1.cell? ⟨w.heap.size, 8, none⟩ = some (.int .i64 g.2.1) := by rw [hc _ _ (by simp; omega)]; simp [go_sem]
  have a9 : w1.cell? ⟨w.heap.size, 9, none⟩ = some (.slice qa g.2.2.1.length qc) := by rw [hc _ _ (by simp; omega)]; simp [go_sem]
  have a10 : w1.cell? ⟨w.heap.size, 10, none⟩ = some (.slice ua g.2.2.2.length uc) := by rw [hc _ _ (by simp; omega)]; simp [go_sem]
  clear hc hf
  go_wp2_with fail
  have B2 : Hid (∀ v2 v3 v4 v5 v6, Below w.heap.size w (((((w1.setCell ⟨w.heap.size + 1 + 1, 2, none⟩ v2).setCell ⟨w.heap.size + 1 + 1, 3, none⟩ v3).setCell ⟨w.heap.size + 1 + 1, 4, none⟩ v4).setCell ⟨w.heap.size + 1 + 1, 5, none⟩ v5).setCell ⟨w.heap.size + 1 + 1, 6, none⟩ v6)) := fun v2 v3 v4 v5 v6 =>
    ((((B1.out.setCell (by simp; omega) _).setCell (by simp; omega) _).setCell (by simp; omega) _).setCell (by simp; omega) _).setCell (by simp; omega) _
  refine (toFeat_any _ _ _ _ _ _ _ _ _ (HQ.out.below (B2.out _ _ _ _ _)) (HU.out.below (B2.out _ _ _ _ _)) l3 l4).mono ?_
  rintro e w2 ⟨b3, b4, rfl, hr3, hr4, hb3, hb4, hne', hbel⟩
  have R1' : Hid (w2.rowIs b1 141 (f.2.2.1.length * 2) (ptCell f.2.2.1)) := by
    refine World.rowIs.of_block ?_ (hbel.block b1 (by have := R1.out.lt; simpa [World.setCell] using this))
    iterate 5 refine World.rowIs.setOther ?_ (by simp; omega) _
    exact R1.out
  have R2' : Hid (w2.rowIs b2 78 (f.2.2.2.length * 2) (tagCell f.2.2.2)) := by
    refine World.rowIs.of_block ?_ (hbel.block b2 (by have := R2.out.lt; simpa [World.setCell] using this))
    iterate 5 refine World.rowIs.setOther ?_ (by simp; omega) _
    exact R2.out
  have x1 : b1 < w1.heap.size := R1.out.lt
  have x2 : b2 < w1.heap.size := R2.out.lt
  have B3 : Hid (Below w.heap.size w w2) := (B2.out _ _ _ _ _).trans (hbel.mono (by simp [World.setCell]; omega))
  have hz2 := hbel.size
  simp only [World.setCell, Array.size_modify] at hz2 hb3 hb4
  have RR : Hid (Rows4 w2 (w.heap.size + 3) f g b1 b2 b3 b4) := ⟨R1'.out, R2'.out, hr3, hr4, by omega, by omega⟩
  have cc : ∀ (b o : Nat), b < w1.heap.size → w2.cell? ⟨b, o, none⟩ = _ := fun b o hb => hbel.cell (p := ⟨b, o, none⟩) (by simpa [World.setCell] using hb)
  have ff : ∀ (b o : Nat), b < w1.heap.size → w2.frozen? ⟨b, o, none⟩ = _ := fun b o hb => hbel.frozen (p := ⟨b, o, none⟩) (by simpa [World.setCell] using hb)
  replace d0 : w2.cell? ⟨w.heap.size + 1 + 1, 0, none⟩ = some (.string i) := by rw [cc _ _ (by omega)]; simp [go_sem, d0]
  replace d1 : w2.cell? ⟨w.heap.size + 1 + 1, 1, none⟩ = some (.bool h) := by rw [cc _ _ (by omega)]; simp [go_sem, d1]
  replace d2 : w2.cell? ⟨w.heap.size + 1 + 1, 2, none⟩ = some (.string f.1) := by rw [cc _ _ (by omega)]; simp [go_sem, d2]
  replace d3 : w2.cell? ⟨w.heap.size + 1 + 1, 3, none⟩ = some (.int .i64 f.2.1) := by rw [cc _ _ (by omega)]; simp [go_sem, d3]
  replace d4 : w2.cell? ⟨w.heap.size + 1 + 1, 4, none⟩ = some (.slice (some ⟨b1, 0, none⟩) f.2.2.1.length f.2.2.1.length) := by rw [cc _ _ (by omega)]; simp [go_sem, d4]
  replace d5 : w2.cell? ⟨w.heap.size + 1 + 1, 5, none⟩ = some (.slice (some ⟨b2, 0, none⟩) f.2.2.2.length f.2.2.2.length) := by rw [cc _ _ (by omega)]; simp [go_sem, d5]
  replace d6 : w2.cell? ⟨w.heap.size + 1 + 1, 6, none⟩ = some (.bool s) := by rw [cc _ _ (by omega)]; simp [go_sem, d6]
  replace d7 : w2.cell? ⟨w.heap.size + 1 + 1, 7, none⟩ = some (.string ⟨#[]⟩) := by rw [cc _ _ (by omega)]; simp [go_sem, d7]
  replace d8 : w2.cell? ⟨w.heap.size + 1 + 1, 8, none⟩ = some (.int .i64 0) := by rw [cc _ _ (by omega)]; simp [go_sem, d8]
  replace d9 : w2.cell? ⟨w.heap.size + 1 + 1, 9, none⟩ = some (.slice none 0 0) := by rw [cc _ _ (by omega)]; simp [go_sem, d9]
  replace d10 : w2.cell? ⟨w.heap.size + 1 + 1, 10, none⟩ = some (.slice none 0 0) := by rw [cc _ _ (by omega)]; simp [go_sem, d10]
  replace f7 : w2.frozen? ⟨w.heap.size + 1 + 1, 7, none⟩ = false := by rw [ff _ _ (by omega)]; simp [go_sem, f7]
  replace f8 : w2.frozen? ⟨w.heap.size + 1 + 1, 8, none⟩ = false := by rw [ff _ _ (by omega)]; simp [go_sem, f8]
  replace f9 : w2.frozen? ⟨w.heap.size + 1 + 1, 9, none⟩ = false := by rw [ff _ _ (by omega)]; simp [go_sem, f9]
  replace f10 : w2.frozen? ⟨w.heap.size + 1 + 1, 10, none⟩ = false := by rw [ff _ _ (by omega)]; simp [go_sem, f10]
  replace g0 : w2.cell? ⟨w.heap.size + 1, 0, none⟩ = some (.string ⟨#[]⟩) := by rw [cc _ _ (by omega)]; simp [go_sem, g0]
  replace g1 : w2.cell? ⟨w.heap.size + 1, 1, none⟩ = some (.bool false) := by rw [cc _ _ (by omega)]; simp [go_sem, g1]
  replace g2 : w2.cell? ⟨w.heap.size + 1, 2, none⟩ = some (.string ⟨#[]⟩) := by rw [cc _ _ (by omega)]; simp [go_sem, g2]
  replace g3 : w2.cell? ⟨w.heap.size + 1, 3, none⟩ = some (.int .i64 0) := by rw [cc _ _ (by omega)]; simp [go_sem, g3]
  replace g4 : w2.cell? ⟨w.heap.size + 1, 4, none⟩ = some (.slice none 0 0) := by rw [cc _ _ (by omega)]; simp [go_sem, g4]
  replace g5 : w2.cell? ⟨w.heap.size + 1, 5, none⟩ = some (.slice none 0 0) := by rw [cc _ _ (by omega)]; simp [go_sem, g5]
  replace g6 : w2.cell? ⟨w.heap.size + 1, 6, none⟩ = some (.bool false) := by rw [cc _ _ (by omega)]; simp [go_sem, g6]
  replace g7 : w2.cell? ⟨w.heap.size + 1, 7, none⟩ = some (.string ⟨#[]⟩) := by rw [cc _ _ (by omega)]; simp [go_sem, g7]
  replace g8 : w2.cell? ⟨w.heap.size + 1, 8, none⟩ = some (.int .i64 0) := by rw [cc _ _ (by omega)]; simp [go_sem, g8]
  replace g9 : w2.cell? ⟨w.heap.size + 1, 9, none⟩ = some (.slice none 0 0) := by rw [cc _ _ (by omega)]; simp [go_sem, g9]
  replace g10 : w2.cell? ⟨w.heap.size + 1, 10, none⟩ = some (.slice none 0 0) := by rw [cc _ _ (by omega)]; simp [go_sem, g10]
  replace k0 : w2.frozen? ⟨w.heap.size + 1, 0, none⟩ = false := by rw [ff _ _ (by omega)]; simp [go_sem, k0]
  replace k1 : w2.frozen? ⟨w.heap.size + 1, 1, none⟩ = false := by rw [ff _ _ (by omega)]; simp [go_sem, k1]
  replace k2 : w2.frozen? ⟨w.heap.size + 1, 2, none⟩ = false := by rw [ff _ _ (by omega)]; simp [go_sem, k2]
  replace k3 : w2.frozen? ⟨w.heap.size + 1, 3, none⟩ = false := by rw [ff _ _ (by omega)]; simp [go_sem, k3]
  replace k4 : w2.frozen? ⟨w.heap.size + 1, 4, none⟩ = false := by rw [ff _ _ (by omega)]; simp [go_sem, k4]
  replace k5 : w2.frozen? ⟨w.heap.size + 1, 5, none⟩ = false := by rw [ff _ _ (by omega)]; simp [go_sem, k5]
  replace k6 : w2.frozen? ⟨w.heap.size + 1, 6, none⟩ = false := by rw [ff _ _ (by omega)]; simp [go_sem, k6]
  replace k7 : w2.frozen? ⟨w.heap.size + 1, 7, none⟩ = false := by rw [ff _ _ (by omega)]; simp [go_sem, k7]
  replace k8 : w2.frozen? ⟨w.heap.size + 1, 8, none⟩ = false := by rw [ff _ _ (by omega)]; simp [go_sem, k8]
  replace k9 : w2.frozen? ⟨w.heap.size + 1, 9, none⟩ = false := by rw [ff _ _ (by omega)]; simp [go_sem, k9]
  replace k10 : w2.frozen? ⟨w.heap.size + 1, 10, none⟩ = false := by rw [ff _ _ (by omega)]; simp [go_sem, k10]
  clear cc ff hbel hr3 hr4 R1' R2' R1 R2 B1 B2 a6 a7 a8 a9 a10 f2 f3 f4 f5 f6
  go_wp2
  refine bodyPost_ret (v := .agg #[.string i, .bool h, .string f.1, .int .i64 f.2.1, .slice (some ⟨b1, 0, none⟩) f.2.2.1.length f.2.2.1.length, .slice (some ⟨b2, 0, none⟩) f.2.2.2.length f.2.2.2.length, .bool s, .string g.1, .int .i64 g.2.1, .slice (some ⟨b3, 0, none⟩) g.2.2.1.length g.2.2.1.length, .slice (some ⟨b4, 0, none⟩) g.2.2.2.length g.2.2.2.length]) (by simp [results, Tryz.results75, go_sem, g0, g1, g2, g3, g4, g5, g6, g7, g8, g9, g10]) rfl ?_
  refine ⟨b1, b2, b3, b4, rfl, ?_, ?_⟩
  · iterate 15 refine Rows4.set ?_ _ _ (by omega)
    exact RR.out
  · iterate 15 refine Below.setCell ?_ (by simp; try omega) _
    exact B3.out


theorem infoChange : (Tryz.prog.info? 102).map (fun i => (i.zero, i.size, i.bytes)) = some (some (.agg #[.string .empty, .bool false, .string .empty, .int .i64 0, .slice none 0 0, .slice none 0 0, .bool false, .string .empty, .int .i64 0, .slice none 0 0, .slice none 0 0]), 11, 176) := by kernel_rfl

abbrev Nat4 := Nat × Nat × Nat × Nat
/-- the eleven values of a change whose parts lie in rows of their own -/
def chVals (c : Ch) (x : Nat4) : List Value := [.string c.1, .bool c.2.1, .string c.2.2.1.1, .int .i64 c.2.2.1.2.1, .slice (some ⟨x.1, 0, none⟩) c.2.2.1.2.2.1.length c.2.2.1.2.2.1.length, .slice (some ⟨x.2.1, 0, none⟩) c.2.2.1.2.2.2.length c.2.2.1.2.2.2.length, .bool c.2.2.2.1, .string c.2.2.2.2.1, .int .i64 c.2.2.2.2.2.1, .slice (some ⟨x.2.2.1, 0, none⟩) c.2.2.2.2.2.2.1.length c.2.2.2.2.2.2.1.length, .slice (some ⟨x.2.2.2, 0, none⟩) c.2.2.2.2.2.2.2.length c.2.2.2.2.2.2.2.length]
def chCell (ds : List Ch) (ad : Nat → Nat4) (j : Nat) : Value := (chVals (cg ds (j / 11)) (ad (j / 11))).getD (j % 11) (.bool false)
def zeroCs : List Value := [.string .empty, .bool false, .string .empty, .int .i64 0, .slice none 0 0, .slice none 0 0, .bool false, .string .empty, .int .i64 0, .slice none 0 0, .slice none 0 0]
def zeroC (j : Nat) : Value := zeroCs.getD (j % 11) (.bool false)
/-- how far a row is filled -/
def filledC (ds : List Ch) (ad : Nat → Nat4) (k j : Nat) : Value := if j < k * 11 then chCell ds ad j else zeroC j
/-- the places, with one more -/
def adSetC (ad : Nat → Nat4) (k : Nat) (x : Nat4) : Nat → Nat4 := fun i => if i = k then x else ad i
theorem adSetC_at (ad : Nat → Nat4) (k : Nat) (x : Nat4) : adSetC ad k x k = x := if_pos rfl
theorem adSetC_lt {ad : Nat → Nat4} {k i : Nat} {x : Nat4} (h : i < k) : adSetC ad k x i = ad i := if_neg (by omega)

theorem lt11 (r : Nat) (h : r < 11) : r = 0 ∨ r = 1 ∨ r = 2 ∨ r = 3 ∨ r = 4 ∨ r = 5 ∨ r = 6 ∨ r = 7 ∨ r = 8 ∨ r = 9 ∨ r = 10 := by omega


theorem filledC_step (ds : List Ch) (ad : Nat → Nat4) (k j : Nat) (x : Nat4) :
    (if j = k * 11 + 10 then .slice (some ⟨x.2.2.2, 0, none⟩) (cnf ds k).2.2.2.length (cnf ds k).2.2.2.length else if j = k * 11 + 9 then .slice (some ⟨x.2.2.1, 0, none⟩) (cnf ds k).2.2.1.length (cnf ds k).2.2.1.length else if j = k * 11 + 8 then .int .i64 (cnf ds k).2.1 else if j = k * 11 + 7 then .string (cnf ds k).1 else if j = k * 11 + 6 then .bool (chs ds k) else if j = k * 11 + 5 then .slice (some ⟨x.2.1, 0, none⟩) (cwf ds k).2.2.2.length (cwf ds k).2.2.2.length else if j = k * 11 + 4 then .slice (some ⟨x.1, 0, none⟩) (cwf ds k).2.2.1.length (cwf ds k).2.2.1.length else if j = k * 11 + 3 then .int .i64 (cwf ds k).2.1 else if j = k * 11 + 2 then .string (cwf ds k).1 else if j = k * 11 + 1 then .bool (chd ds k) else if j = k * 11 then .string (cid ds k) else filledC ds ad k j) = filledC ds (adSetC ad k x) (k + 1) j := by
  by_cases hj : k * 11 ≤ j ∧ j < k * 11 + 11
  · obtain ⟨r, hr, rfl⟩ : ∃ r, r < 11 ∧ j = k * 11 + r := ⟨j - k * 11, by omega, by omega⟩
    have e1 : (k * 11 + r) / 11 = k := by omega
    have e2 : (k * 11 + r) % 11 = r := by omega
    have e3 : filledC ds (adSetC ad k x) (k + 1) (k * 11 + r) = (chVals (cg ds k) x).getD r (.bool false) := by
      unfold filledC chCell
      rw [if_pos (by omega), e1, e2, adSetC_at]
    rw [e3]
    rcases lt11 r hr with rfl | rfl | rfl | rfl | rfl | rfl | rfl | rfl | rfl | rfl | rfl <;> simp [chVals, cid, chd, cwf, chs, cnf]
  · rw [if_neg (by omega), if_neg (by omega), if_neg (by omega), if_neg (by omega), if_neg (by omega), if_neg (by omega), if_neg (by omega), if_neg (by omega), if_neg (by omega), if_neg (by omega), if_neg (by omega)]
    unfold filledC chCell
    by_cases h5 : j < k * 11
    · rw [if_pos h5, if_pos (by omega), adSetC_lt (by omega)]
    · rw [if_neg h5, if_neg (by omega)]

theorem made_rowC (w : World) (n : Nat) (t : TypeId) : (w.alloc (.cells (madeCells #[.string .empty, .bool false, .string .empty, .int .i64 0, .slice none 0 0, .slice none 0 0, .bool false, .string .empty, .int .i64 0, .slice none 0 0, .slice none 0 0] (n * 11)) t)).rowIs w.heap.size t (n * 11) zeroC := by
  have hs : (madeCells #[Value.string .empty, .bool false, .string .empty, .int .i64 0, .slice none 0 0, .slice none 0 0, .bool false, .string .empty, .int .i64 0, .slice none 0 0, .slice none 0 0] (n * 11)).size = n * 11 := by simp [madeCells]
  have := World.rowIs_alloc w (madeCells #[.string .empty, .bool false, .string .empty, .int .i64 0, .slice none 0 0, .slice none 0 0, .bool false, .string .empty, .int .i64 0, .slice none 0 0, .slice none 0 0] (n * 11)) t zeroC (by
    intro i hi
    rw [hs] at hi
    simp only [madeCells, Array.getElem?_map, Array.getElem?_range, if_pos hi, Option.map_some]
    rcases lt11 (i % 11) (by omega) with h | h | h | h | h | h | h | h | h | h | h <;> simp [h, zeroC, zeroCs])
  rwa [hs] at this

/-- the rows of the parts of the first changes -/
def PartsC (w : World) (base : Nat) (ds : List Ch) (ad : Nat → Nat4) (k : Nat) : Prop :=
  ∀ i, i < k → Rows4 w (base + 1) (cwf ds i) (cnf ds i) (ad i).1 (ad i).2.1 (ad i).2.2.1 (ad i).2.2.2 ∧ ∀ j, j < i → (ad j).2.2.1 < (ad i).1 ∧ (ad j).2.2.1 < (ad i).2.1 ∧ (ad j).2.2.2 < (ad i).1 ∧ (ad j).2.2.2 < (ad i).2.1

theorem PartsC.below {w w' : World} {base : Nat} {ds : List Ch} {ad : Nat → Nat4} {k : Nat} (h : PartsC w base ds ad k) (hb : Below w.heap.size w w') : PartsC w' base ds ad k := fun i hi => ⟨(h i hi).1.below hb, (h i hi).2⟩
theorem PartsC.setBase {w : World} {base : Nat} {ds : List Ch} {ad : Nat → Nat4} {k : Nat} (h : PartsC w base ds ad k) (o : Nat) (v : Value) : PartsC (w.setCell ⟨base, o, none⟩ v) base ds ad k := fun i hi => ⟨(h i hi).1.set o v (by omega), (h i hi).2⟩

/-- what 'toChangeS' answers: a row of its own, with the rows of the parts -/
def NewChanges (w : World) (ds : List Ch) (e : Ending) (w' : World) : Prop :=
  ∃ b ad, e = .returned (.slice (some ⟨b, 0, none⟩) ds.length ds.length) ∧ w'.rowIs b 102 (ds.length * 11) (chCell ds ad) ∧ PartsC w' b ds ad ds.length ∧ w.heap.size ≤ b ∧ Below w.heap.size w w'

theorem chCell_at (ds : List Ch) (ad : Nat → Nat4) (i r : Nat) (hr : r < 11) : chCell ds ad (i * 11 + r) = (chVals (cg ds i) (ad i)).getD r (.bool false) := by
  unfold chCell
  rw [show (i * 11 + r) / 11 = i by omega, show (i * 11 + r) % 11 = r by omega]

theorem ChangesAt.of_row {ds : List Ch} {ad : Nat → Nat4} {w : World} {b : Nat} {t : TypeId} (h : w.rowIs b t (ds.length * 11) (chCell ds ad)) (hp : PartsC w b ds ad ds.length) : ChangesAt w (some ⟨b, 0, none⟩) ds := by
  intro i hi
  obtain ⟨hr, _⟩ := hp i hi
  have hc : ∀ r, r < 11 → w.cell? ⟨b, 0 + i * 11 + r, none⟩ = some ((chVals (cg ds i) (ad i)).getD r (.bool false)) := fun r hr => by
    rw [Nat.zero_add, h.cell (i := i * 11 + r) (by omega), chCell_at _ _ _ _ hr]
  exact ⟨b, 0, (some ⟨(ad i).1, 0, none⟩), (cwf ds i).2.2.1.length, (some ⟨(ad i).2.1, 0, none⟩), (cwf ds i).2.2.2.length, (some ⟨(ad i).2.2.1, 0, none⟩), (cnf ds i).2.2.1.length, (some ⟨(ad i).2.2.2, 0, none⟩), (cnf ds i).2.2.2.length, rfl, h.lt, hc 0 (by omega), hc 1 (by omega), hc 2 (by omega), hc 3 (by omega), hc 4 (by omega), hc 5 (by omega), hc 6 (by omega), hc 7 (by omega), hc 8 (by omega), hc 9 (by omega), hc 10 (by omega), PtsAt.of_row hr.r1, TagsAt.of_row hr.r2, PtsAt.of_row hr.r3, TagsAt.of_row hr.r4⟩

set_option maxRecDepth 100000 in
set_option maxHeartbeats 8000000 in
theorem toChangeS_any (a : Option Addr) (cap : Nat) (ds : List Ch) (w : World) (hp : ChangesAt w a ds) (hlen : ds.length ≤ 1048576) (hl : ChLen ds 1048576) :
    Calls Tryz.prog 34 #[.slice a ds.length cap] w (NewChanges w ds) := by
  obtain ⟨i0, hi, hz0, hz1, hz2⟩ := info_parts infoChange
  have hmk : ∀ u : World, (Instr.makeSlice 56 (.int .i64 (ds.length : Int)) (.int .i64 (ds.length : Int))).run Tryz.prog u =
      .ok (.slice (some ⟨u.heap.size, 0, none⟩) ds.length ds.length) (u.alloc (.cells (madeCells #[.string .empty, .bool false, .string .empty, .int .i64 0, .slice none 0 0, .slice none 0 0, .bool false, .string .empty, .int .i64 0, .slice none 0 0, .slice none 0 0] (ds.length * 11)) 102)) := fun u => by
    have h := run_make (P := Tryz.prog) u 56 102 i0 (.agg #[.string .empty, .bool false, .string .empty, .int .i64 0, .slice none 0 0, .slice none 0 0, .bool false, .string .empty, .int .i64 0, .slice none 0 0, .slice none 0 0]) Tryz.underlying56 hi hz0 .i64 .i64 (ds.length : Int) (ds.length : Int) (by omega) (Int.le_refl _) (by rw [hz2]; omega) (by omega)
    simpa [hz1, Value.cells] using h
  have H0 := Lib.hid hp
  have HL := Lib.hid hl
  clear hp hz0 hz1 hz2 hi hl
  go_enter Tryz.func34, Tryz.ntmps34
  go_wp2
  clear hmk
  go_loopw [4] (fun i wr => ∃ (k : Nat) (ad : Nat → Nat4), k ≤ ds.length ∧ i = .int .i64 k ∧ wr.rowIs w.heap.size 102 (ds.length * 11) (filledC ds ad k) ∧ PartsC wr w.heap.size ds ad k ∧ Below w.heap.size w wr) (fun i _ => ds.length - (intOf i).toNat)
  case atStart =>
    refine ⟨0, fun _ => (0, 0, 0, 0), Nat.zero_le _, rfl, (made_rowC w ds.length _).congr fun i _ => ?_, fun i hi => absurd hi (Nat.not_lt_zero _), (Below.refl _ _).alloc (Nat.le_refl _) _⟩
    unfold filledC
    rw [if_neg (by omega)]
  case round =>
    obtain ⟨k, ad, hk, rfl, hrow, hpar, hbel⟩ := hrel
    by_cases hlt : k < ds.length
    · obtain ⟨b, off, pa, pc, ta, tc, qa, qc, ua, uc, rfl, hx⟩ := H0.out k hlt
      obtain ⟨hb, c0, c1, c2, c3, c4, c5, c6, c7, c8, c9, c10, hpp, htt, hqq, huu⟩ := hx.below hbel
      obtain ⟨l1, ⟨_, l2, l3, _⟩, ⟨_, l4, l5, _⟩⟩ := HL.out k hlt
      have HR := Lib.hid hrow
      have HB := Lib.hid hbel
      have HPar := Lib.hid hpar
      have HPP := Lib.hid hpp
      have HTT := Lib.hid htt
      have HQQ := Lib.hid hqq
      have HUU := Lib.hid huu
      have hwlt := hrow.lt
      clear hrow hbel hpar hpp htt hqq huu hx
      have hsz := HB.out.size
      go_wp2_with fail
      refine (toChange_any _ _ _ _ _ _ _ _ _ _ _ _ _ _ HPP.out HTT.out HQQ.out HUU.out (by omega) (by omega) (by omega) (by omega)).mono ?_
      rintro e w1 ⟨b1, b2, b3, b4, rfl, hrr, hb1⟩
      have hrow1 : w1.rowIs w.heap.size 102 (ds.length * 11) (filledC ds ad k) := HR.out.of_block (hb1.block _ HR.out.lt)
      have hf0 := hrow1.frozen (k * 11)
      have hd0 := hrow1.cell (i := k * 11) (by omega)
      have hf1 := hrow1.frozen (k * 11 + 1)
      have hd1 := hrow1.cell (i := k * 11 + 1) (by omega)
      have hf2 := hrow1.frozen (k * 11 + 2)
      have hd2 := hrow1.cell (i := k * 11 + 2) (by omega)
      have hf3 := hrow1.frozen (k * 11 + 3)
      have hd3 := hrow1.cell (i := k * 11 + 3) (by omega)
      have hf4 := hrow1.frozen (k * 11 + 4)
      have hd4 := hrow1.cell (i := k * 11 + 4) (by omega)
      have hf5 := hrow1.frozen (k * 11 + 5)
      have hd5 := hrow1.cell (i := k * 11 + 5) (by omega)
      have hf6 := hrow1.frozen (k * 11 + 6)
      have hd6 := hrow1.cell (i := k * 11 + 6) (by omega)
      have hf7 := hrow1.frozen (k * 11 + 7)
      have hd7 := hrow1.cell (i := k * 11 + 7) (by omega)
      have hf8 := hrow1.frozen (k * 11 + 8)
      have hd8 := hrow1.cell (i := k * 11 + 8) (by omega)
      have hf9 := hrow1.frozen (k * 11 + 9)
      have hd9 := hrow1.cell (i := k * 11 + 9) (by omega)
      have hf10 := hrow1.frozen (k * 11 + 10)
      have hd10 := hrow1.cell (i := k * 11 + 10) (by omega)
      have HR1 := Lib.hid hrow1
      have HB1 := Lib.hid hb1
      have HP1 : Hid (PartsC w1 w.heap.size ds (adSetC ad k (b1, b2, b3, b4)) (k + 1)) := by
        intro i hi
        by_cases e : i = k
        · subst e
          rw [adSetC_at]
          obtain ⟨y1, y2, y3, y4, y5, y6⟩ := hrr
          refine ⟨⟨y1, y2, y3, y4, by dsimp only; omega, y6⟩, fun j hj => ?_⟩
          rw [adSetC_lt hj]
          have := (HPar.out j (by omega)).1.lt
          dsimp only
          omega
        · rw [adSetC_lt (by omega)]
          obtain ⟨x1, x2⟩ := HPar.out.below hb1 i (by omega)
          exact ⟨x1, fun j hj => by rw [adSetC_lt (by omega)]; exact x2 j hj⟩
      clear hrow1 hb1 hrr c0 c1 c2 c3 c4 c5 c6 c7 c8 c9 c10
      go_wp2
      go_roundw
      case rel =>
        refine ⟨k + 1, adSetC ad k (b1, b2, b3, b4), by omega, by go_num, World.rowIs.congr (f := _) ?_ fun j _ => filledC_step ds ad k j (b1, b2, b3, b4), ?_, ?_⟩
        · exact ((((((((((HR1.out.set (k * 11) _).set (k * 11 + 1) _).set (k * 11 + 2) _).set (k * 11 + 3) _).set (k * 11 + 4) _).set (k * 11 + 5) _).set (k * 11 + 6) _).set (k * 11 + 7) _).set (k * 11 + 8) _).set (k * 11 + 9) _).set (k * 11 + 10) _
        · iterate 11 refine PartsC.setBase ?_ _ _
          exact HP1.out
        · iterate 11 refine Below.setCell ?_ (by exact Nat.le_refl _) _
          exact HB.out.trans (HB1.out.mono hsz)
      case measure => simp [intOf]; omega
    · have HR := Lib.hid hrow
      have HB := Lib.hid hbel
      have HPar := Lib.hid hpar
      clear hrow hbel hpar
      go_wp2
      go_ret
      obtain rfl : k = ds.length := by omega
      exact ⟨w.heap.size, ad, rfl, HR.out.congr fun j hj => (by unfold filledC; rw [if_pos hj]), HPar.out, Nat.le_refl _, HB.out⟩
end Go.Proofs.YtccgbengfmlgbaaGreat
