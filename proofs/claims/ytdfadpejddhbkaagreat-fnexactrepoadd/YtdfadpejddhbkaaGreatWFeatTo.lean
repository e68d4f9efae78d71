/- Proved here: a thing is copied part by part into memory of its own; rows of at most 1,048,576 points and tags. -/
import Derived.Test.YtdfadpejddhbkaaGreatWFeat
namespace Go.Proofs.YtdfadpejddhbkaaGreat
set_option linter.unusedVariables false
open Go.ChangeShapes Go.WideShapes Go.ChangeAt Go.RowKit

/-- what 'toFeat' answers: a thing whose points and tags lie in two rows of its own -/
def NewFeat (w : World) (id : ByteArray) (k : Int) (ps : List (Int × Int)) (ts : List Tg) (e : Ending) (w' : World) : Prop :=
  ∃ b c, e = .returned (.agg #[.string id, .int .i64 k, .slice (some ⟨b, 0, none⟩) ps.length ps.length, .slice (some ⟨c, 0, none⟩) ts.length ts.length]) ∧
    w'.rowIs b 148 (ps.length * 2) (ptCell ps) ∧ w'.rowIs c 92 (ts.length * 2) (tagCell ts) ∧ w.heap.size ≤ b ∧ w.heap.size ≤ c ∧ b ≠ c ∧ Below w.heap.size w w'

set_option maxRecDepth 100000 in
set_option maxHeartbeats 2000000 in
theorem toFeat_any (id : ByteArray) (k : Int) (a : Option Addr) (cap : Nat) (ps : List (Int × Int)) (c : Option Addr) (cap' : Nat) (ts : List Tg) (w : World) (hp : PtsAt w a ps) (ht : TagsAt w c ts) (hl : ps.length ≤ 1048576) (hl' : ts.length ≤ 1048576) :
    Calls Tryz.prog 95 #[.agg #[.string id, .int .i64 k, .slice a ps.length cap, .slice c ts.length cap']] w (NewFeat w id k ps ts) := by
  have HP := Lib.hid hp
  have HT := Lib.hid ht
  clear hp ht
  go_enter Tryz.func95, Tryz.ntmps95
  go_wp2_with fail
  refine (toShape_any _ _ _ _ _ (HP.out.below ((((Below.refl _ _).alloc (Nat.le_refl _) _).alloc (by simp) _).alloc (by simp; omega) _)) hl).mono ?_
  rintro e w1 ⟨b, rfl, hrow, hb, hbel⟩
  have HR := Lib.hid hrow
  have B1 : Hid (Below w.heap.size w w1) := ((((Below.refl _ _).alloc (Nat.le_refl _) _).alloc (by simp) _).alloc (by simp; omega) _).trans (hbel.mono (by simp; omega))
  obtain ⟨hc, hf⟩ := bcell hbel
  have hz := hbel.size
  simp only [World.size_alloc] at hz hb
  clear hrow hbel
  have d0 : w1.cell? ⟨w.heap.size + 1 + 1, 0, none⟩ = some (.string id) := by rw [hc _ _ (by simp)]; simp [go_sem]
  have d1 : w1.cell? ⟨w.heap.size + 1 + 1, 1, none⟩ = some (.int .i64 0) := by rw [hc _ _ (by simp)]; simp [go_sem]
  have d2 : w1.cell? ⟨w.heap.size + 1 + 1, 2, none⟩ = some (.slice none 0 0) := by rw [hc _ _ (by simp)]; simp [go_sem]
  have d3 : w1.cell? ⟨w.heap.size + 1 + 1, 3, none⟩ = some (.slice none 0 0) := by rw [hc _ _ (by simp)]; simp [go_sem]
  have f1 : w1.frozen? ⟨w.heap.size + 1 + 1, 1, none⟩ = false := by rw [hf _ _ (by simp)]; simp [go_sem]
  have f2 : w1.frozen? ⟨w.heap.size + 1 + 1, 2, none⟩ = false := by rw [hf _ _ (by simp)]; simp [go_sem]
  have f3 : w1.frozen? ⟨w.heap.size + 1 + 1, 3, none⟩ = false := by rw [hf _ _ (by simp)]; simp [go_sem]
  have g0 : w1.cell? ⟨w.heap.size + 1, 0, none⟩ = some (.string ⟨#[]⟩) := by rw [hc _ _ (by simp)]; simp [go_sem]
  have g1 : w1.cell? ⟨w.heap.size + 1, 1, none⟩ = some (.int .i64 0) := by rw [hc _ _ (by simp)]; simp [go_sem]
  have g2 : w1.cell? ⟨w.heap.size + 1, 2, none⟩ = some (.slice none 0 0) := by rw [hc _ _ (by simp)]; simp [go_sem]
  have g3 : w1.cell? ⟨w.heap.size + 1, 3, none⟩ = some (.slice none 0 0) := by rw [hc _ _ (by simp)]; simp [go_sem]
  have k0 : w1.frozen? ⟨w.heap.size + 1, 0, none⟩ = false := by rw [hf _ _ (by simp)]; simp [go_sem]
  have k1 : w1.frozen? ⟨w.heap.size + 1, 1, none⟩ = false := by rw [hf _ _ (by simp)]; simp [go_sem]
  have k2 : w1.frozen? ⟨w.heap.size + 1, 2, none⟩ = false := by rw [hf _ _ (by simp)]; simp [go_sem]
  have k3 : w1.frozen? ⟨w.heap.size + 1, 3, none⟩ = false := by rw [hf _ _ (by simp)]; simp [go_sem]
  have a3 : w1.cell? ⟨w.heap.size, 3, none⟩ = some (.slice c ts.length cap') := by rw [hc _ _ (by simp; omega)]; simp [go_sem]
  clear hc hf
  go_wp2_with fail
  have HT1 : Hid (TagsAt ((w1.setCell ⟨w.heap.size + 1 + 1, 1, none⟩ (.int .i64 k)).setCell ⟨w.heap.size + 1 + 1, 2, none⟩ (.slice (some ⟨b, 0, none⟩) ps.length ps.length)) c ts) :=
    HT.out.below ((B1.out.setCell (by simp; omega) _).setCell (by simp; omega) _)
  refine (toTagS_any _ _ _ _ HT1.out hl').mono ?_
  rintro e w2 ⟨c', rfl, hrow2, hb2, hbel2⟩
  have HR2 := Lib.hid hrow2
  have HR1 : Hid (w2.rowIs b 148 (ps.length * 2) (ptCell ps)) := by
    have := ((HR.out.setOther (a := ⟨w.heap.size + 1 + 1, 1, none⟩) (by simp; omega) (.int .i64 k)).setOther (a := ⟨w.heap.size + 1 + 1, 2, none⟩) (by simp; omega) (.slice (some ⟨b, 0, none⟩) ps.length ps.length))
    exact this.of_block (hbel2.block _ this.lt)
  have B2 : Hid (Below w.heap.size w w2) := ((B1.out.setCell (by simp; omega) _).setCell (by simp; omega) _).trans (hbel2.mono (by simp [World.setCell]; omega))
  have hblt : b < w1.heap.size := HR.out.lt
  have hz2 := hbel2.size
  simp only [World.setCell, Array.size_modify] at hz2
  have cc : ∀ (o : Nat) v, w1.cell? ⟨w.heap.size + 1, o, none⟩ = some v → w2.cell? ⟨w.heap.size + 1, o, none⟩ = some v := fun o v h =>
    cell_later hbel2 (by rw [World.cell?_setCell_other _ _ _ _ (by simp), World.cell?_setCell_other _ _ _ _ (by simp)]; exact h)
  have ff : ∀ (p : Addr), p.block < w1.heap.size → w2.frozen? p = w1.frozen? p := fun p hp => by
    rw [hbel2.frozen (p := p) (by simpa [World.setCell] using hp), World.frozen?_setCell, World.frozen?_setCell]
  replace d0 : w2.cell? ⟨w.heap.size + 1 + 1, 0, none⟩ = some (.string id) := cell_later hbel2 (by rw [World.cell?_setCell_other _ _ _ _ (by simp), World.cell?_setCell_other _ _ _ _ (by simp)]; exact d0)
  replace d1 : w2.cell? ⟨w.heap.size + 1 + 1, 1, none⟩ = some (.int .i64 k) := cell_later hbel2 (by rw [World.cell?_setCell_other _ _ _ _ (by simp)]; exact World.cell?_setCell_same _ _ _ d1)
  replace d2 : w2.cell? ⟨w.heap.size + 1 + 1, 2, none⟩ = some (.slice (some ⟨b, 0, none⟩) ps.length ps.length) := cell_later hbel2 (World.cell?_setCell_same _ _ _ ((World.cell?_setCell_other _ _ _ _ (by simp)).trans d2))
  replace d3 : w2.cell? ⟨w.heap.size + 1 + 1, 3, none⟩ = some (.slice none 0 0) := cell_later hbel2 (by rw [World.cell?_setCell_other _ _ _ _ (by simp), World.cell?_setCell_other _ _ _ _ (by simp)]; exact d3)
  replace g0 := cc _ _ g0
  replace g1 := cc _ _ g1
  replace g2 := cc _ _ g2
  replace g3 := cc _ _ g3
  rw [← ff _ (by show w.heap.size + 1 < _; omega)] at k0 k1 k2 k3
  rw [← ff _ (by show w.heap.size + 1 + 1 < _; omega)] at f3
  have hcb : w.heap.size + 1 + 1 + 1 ≤ c' ∧ b ≠ c' := by
    simp only [World.setCell, Array.size_modify] at hb2
    omega
  clear hbel2 hrow2 hb2 cc ff f1 f2 a3 HT1
  go_wp2
  refine bodyPost_ret (v := .agg #[.string id, .int .i64 k, .slice (some ⟨b, 0, none⟩) ps.length ps.length, .slice (some ⟨c', 0, none⟩) ts.length ts.length]) (by simp [results, Tryz.results95, go_sem, g0, g1, g2, g3]) rfl ?_
  refine ⟨b, c', rfl, ?_, ?_, by omega, by omega, hcb.2, ?_⟩
  · exact ((((HR1.out.setOther (by simp; omega) _).setOther (by simp; omega) _).setOther (by simp; omega) _).setOther (by simp; omega) _).setOther (by simp; omega) _
  · exact ((((HR2.out.setOther (by simp; omega) _).setOther (by simp; omega) _).setOther (by simp; omega) _).setOther (by simp; omega) _).setOther (by simp; omega) _
  · exact ((((B2.out.setCell (by simp; omega) _).setCell (by simp) _).setCell (by simp) _).setCell (by simp) _).setCell (by simp) _
end Go.Proofs.YtdfadpejddhbkaaGreat
