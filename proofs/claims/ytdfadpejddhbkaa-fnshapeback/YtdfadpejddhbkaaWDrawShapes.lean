/- Proved here: the draws of a shape for the laws of the turned and of the reversed shape are shapes that can be read. -/
import Derived.Test.YtdfadpejddhbkaaWDrawTop
namespace Go.Proofs.Ytdfadpejddhbkaa
set_option linter.unusedVariables false
open Go.ChangeShapes Go.WideShapes Go.ChangeAt Go.RowKit Go.Deep

set_option maxHeartbeats 1000000 in
theorem drawShapeBack_any (a : Option Addr) (n cap : Nat) (w : World) (h : CodeAt w a n) (hl : n ≤ 1048576) (hc : n ≤ cap) :
    Calls Try.prog 9 #[.slice a n cap] w (Drawn w) := by
  have HC := Lib.hid h
  clear h
  go_enter Try.func9, Try.ntmps9
  go_wp2_with fail
  refine (l12Open_any _ _ _ _ (HC.out.below ((Below.refl _ _).alloc (Nat.le_refl _) _)) hl hc).mono ?_
  rintro e w1 ⟨R, m, rfl, hR, hm, hr, hb1⟩
  have hb1' : Below w.heap.size w w1 := ((Below.refl _ _).alloc (Nat.le_refl _) _).trans (hb1.mono (by simp))
  have t0 := cell_later hb1 (a := ⟨w.heap.size, 0, none⟩) (v := .int .i64 0) (by simp [go_sem])
  have t1 := cell_later hb1 (a := ⟨w.heap.size, 1, none⟩) (v := .slice none 0 0) (by simp [go_sem])
  have t2 : w1.frozen? ⟨w.heap.size, 0, none⟩ = false := by rw [(bcell hb1).2 _ _ (by simp)]; simp [go_sem]
  have t3 : w1.frozen? ⟨w.heap.size, 1, none⟩ = false := by rw [(bcell hb1).2 _ _ (by simp)]; simp [go_sem]
  have HR := Lib.hid hr
  have B1 := Lib.hid hb1'
  simp only [World.size_alloc] at hR
  have z0 : w.heap.size < w1.heap.size := World.block_lt_of_cell? _ _ t0
  clear hr hb1 hb1'
  go_wp2_with fail
  refine (l1Bent_any _ _ _ _ _ _ HR.out (by omega) hm).mono ?_
  rintro e w2 ⟨k, g, c2, ps, p', rfl, hpt, _, ⟨hg1, hg2⟩, hlen, _, _, hg⟩
  have hne : some w.heap.size ≠ some R := by simp; omega
  replace t0 := (hg.cell_far ⟨w.heap.size, 0, none⟩ z0 hne).trans t0
  replace t1 := (hg.cell_far ⟨w.heap.size, 1, none⟩ z0 hne).trans t1
  replace t2 := (hg.frozen_far ⟨w.heap.size, 0, none⟩ z0 hne).trans t2
  replace t3 := (hg.frozen_far ⟨w.heap.size, 1, none⟩ z0 hne).trans t3
  have HPT := Lib.hid hpt
  have B2 : Hid (Below w.heap.size w w2) := B1.out.grown hg B1.out.size (fun j e => by simp at e; omega)
  clear hpt hg hne
  go_wp2
  refine bodyPost_ret (v := .agg #[.int .i64 k, .slice (some ⟨g, 0, none⟩) ps.length c2]) (by simp [results, Try.results9, go_sem, t0, t1]) rfl ?_
  have hbne : blk (some ⟨g, 0, none⟩) ≠ some w.heap.size := by simp [blk]; omega
  exact ⟨k, g, c2, ps, rfl, (HPT.out.set hbne).set hbne, hlen, (B2.out.setCell (Nat.le_refl _) _).setCell (Nat.le_refl _) _⟩

set_option maxHeartbeats 1000000 in
theorem drawShapeTurn_any (a : Option Addr) (n cap : Nat) (w : World) (h : CodeAt w a n) (hl : n ≤ 1048576) (hc : n ≤ cap) :
    Calls Try.prog 21 #[.slice a n cap] w (Drawn w) := by
  have HC := Lib.hid h
  clear h
  go_enter Try.func21, Try.ntmps21
  go_wp2_with fail
  refine (l12Open_any _ _ _ _ (HC.out.below ((Below.refl _ _).alloc (Nat.le_refl _) _)) hl hc).mono ?_
  rintro e w1 ⟨R, m, rfl, hR, hm, hr, hb1⟩
  have hb1' : Below w.heap.size w w1 := ((Below.refl _ _).alloc (Nat.le_refl _) _).trans (hb1.mono (by simp))
  have t0 := cell_later hb1 (a := ⟨w.heap.size, 0, none⟩) (v := .int .i64 0) (by simp [go_sem])
  have t1 := cell_later hb1 (a := ⟨w.heap.size, 1, none⟩) (v := .slice none 0 0) (by simp [go_sem])
  have t2 : w1.frozen? ⟨w.heap.size, 0, none⟩ = false := by rw [(bcell hb1).2 _ _ (by simp)]; simp [go_sem]
  have t3 : w1.frozen? ⟨w.heap.size, 1, none⟩ = false := by rw [(bcell hb1).2 _ _ (by simp)]; simp [go_sem]
  have HR := Lib.hid hr
  have B1 := Lib.hid hb1'
  simp only [World.size_alloc] at hR
  have z0 : w.heap.size < w1.heap.size := World.block_lt_of_cell? _ _ t0
  clear hr hb1 hb1'
  go_wp2_with fail
  refine (l1Bent_any _ _ _ _ _ _ HR.out (by omega) hm).mono ?_
  rintro e w2 ⟨k, g, c2, ps, p', rfl, hpt, _, ⟨hg1, hg2⟩, hlen, _, _, hg⟩
  have hne : some w.heap.size ≠ some R := by simp; omega
  replace t0 := (hg.cell_far ⟨w.heap.size, 0, none⟩ z0 hne).trans t0
  replace t1 := (hg.cell_far ⟨w.heap.size, 1, none⟩ z0 hne).trans t1
  replace t2 := (hg.frozen_far ⟨w.heap.size, 0, none⟩ z0 hne).trans t2
  replace t3 := (hg.frozen_far ⟨w.heap.size, 1, none⟩ z0 hne).trans t3
  have HPT := Lib.hid hpt
  have B2 : Hid (Below w.heap.size w w2) := B1.out.grown hg B1.out.size (fun j e => by simp at e; omega)
  clear hpt hg hne
  go_wp2
  refine bodyPost_ret (v := .agg #[.int .i64 k, .slice (some ⟨g, 0, none⟩) ps.length c2]) (by simp [results, Try.results21, go_sem, t0, t1]) rfl ?_
  have hbne : blk (some ⟨g, 0, none⟩) ≠ some w.heap.size := by simp [blk]; omega
  exact ⟨k, g, c2, ps, rfl, (HPT.out.set hbne).set hbne, hlen, (B2.out.setCell (Nat.le_refl _) _).setCell (Nat.le_refl _) _⟩

end Go.Proofs.Ytdfadpejddhbkaa
