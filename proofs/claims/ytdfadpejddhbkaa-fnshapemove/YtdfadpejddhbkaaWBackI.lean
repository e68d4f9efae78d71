/- Proved here: the program's ShapeBack answers the points the last first, in memory of its own; no condition. -/
import Derived.Test.YtdfadpejddhbkaaWBackS
import Derived.Test.YtdfadpejddhbkaaWRev
namespace Go.Proofs.Ytdfadpejddhbkaa
set_option linter.unusedVariables false
open Go.ChangeShapes Go.WideShapes Go.ChangeAt Go.RowKit

set_option maxHeartbeats 2000000 in
theorem implShapeBack_yes (k : Int) (a : Option Addr) (cap : Nat) (ps : List (Int × Int)) (w : World) (hp : PtsAt w a ps) (hl : ps.length ≤ 6) (hok : shapeOk k ps = true) (h0 : 0 < ps.length) :
    Calls Try.prog 10 #[.agg #[.int .i64 k, .slice a ps.length cap]] w (ShapeAns w k ps.reverse) := by
  have HP := Lib.hid hp
  obtain ⟨b, off, rfl, hb, hc1, hc2⟩ := hp 0 h0
  clear hp hc1 hc2
  go_enter Try.func10, Try.ntmps10
  go_wp2_with fail
  refine (implShapeOk_any _ _ _ _ _ (HP.out.below (((Below.refl _ _).alloc (Nat.le_refl _) _).alloc (by simp) _))).mono ?_
  rintro e w1 ⟨rfl, hb1⟩
  have c0 := cell_later hb1 (a := ⟨w.heap.size, 0, none⟩) (v := .int .i64 k) (by simp [go_sem])
  have c1 := cell_later hb1 (a := ⟨w.heap.size, 1, none⟩) (v := .slice (some ⟨b, off, none⟩) ps.length cap) (by simp [go_sem])
  have e0 := cell_later hb1 (a := ⟨w.heap.size + 1, 0, none⟩) (v := .int .i64 0) (by simp [go_sem])
  have e1 := cell_later hb1 (a := ⟨w.heap.size + 1, 1, none⟩) (v := .slice none 0 0) (by simp [go_sem])
  have f0 : w1.frozen? ⟨w.heap.size + 1, 0, none⟩ = false := by rw [(bcell hb1).2 _ _ (by simp)]; simp [go_sem]
  have f1 : w1.frozen? ⟨w.heap.size + 1, 1, none⟩ = false := by rw [(bcell hb1).2 _ _ (by simp)]; simp [go_sem]
  have B1 : Hid (Below w.heap.size w w1) := (((Below.refl _ _).alloc (Nat.le_refl _) _).alloc (by simp) _).trans (hb1.mono (by simp; omega))
  have z1 : w.heap.size + 1 < w1.heap.size := World.block_lt_of_cell? _ _ e0
  clear hb1
  go_wp2_with fail
  refine (clone_any _ _ _ _ _ (HP.out.below B1.out) (by omega) h0).mono ?_
  rintro e w2 ⟨g, cap2, rfl, hpt, hso, hg, hglt, hb2⟩
  replace c0 := cell_later hb2 c0
  replace e0 := cell_later hb2 e0
  replace e1 := cell_later hb2 e1
  replace f0 := (hb2.frozen (p := ⟨w.heap.size + 1, 0, none⟩) z1).trans f0
  replace f1 := (hb2.frozen (p := ⟨w.heap.size + 1, 1, none⟩) z1).trans f1
  have Q2 := Lib.hid hpt
  have S2 := Lib.hid hso
  have B2 := Lib.hid hb2
  have z2 := hb2.size
  clear hpt hso hb2 c1
  go_wp2_with fail
  refine (reverse_any _ _ _ _ _ Q2.out S2.out (by omega) h0).mono ?_
  rintro e w3 ⟨rfl, hpt, hso, hg3⟩
  have n1 : some w.heap.size ≠ some g := by simp; omega
  have n2 : some (w.heap.size + 1) ≠ some g := by simp; omega
  replace c0 := (hg3.cell_far ⟨w.heap.size, 0, none⟩ (by show w.heap.size < _; omega) n1).trans c0
  replace e0 := (hg3.cell_far ⟨w.heap.size + 1, 0, none⟩ (by show w.heap.size + 1 < _; omega) n2).trans e0
  replace e1 := (hg3.cell_far ⟨w.heap.size + 1, 1, none⟩ (by show w.heap.size + 1 < _; omega) n2).trans e1
  replace f0 := (hg3.frozen_far ⟨w.heap.size + 1, 0, none⟩ (by show w.heap.size + 1 < _; omega) n2).trans f0
  replace f1 := (hg3.frozen_far ⟨w.heap.size + 1, 1, none⟩ (by show w.heap.size + 1 < _; omega) n2).trans f1
  have Q3 := Lib.hid hpt
  have S3 := Lib.hid hso
  have G3 := Lib.hid hg3
  have hlen : ps.reverse.length = ps.length := by simp
  have HLEN := Lib.hid hlen
  clear hpt hso hg3 hlen n1 n2
  go_wp2
  refine bodyPost_ret (v := .agg #[.int .i64 k, .slice (some ⟨g, 0, none⟩) ps.reverse.length cap2]) (by simp [results, Try.results10, go_sem, e0, e1]) rfl ?_
  have hne : blk (some ⟨g, 0, none⟩) ≠ some (w.heap.size + 1) := by simp [blk]; omega
  have hsz3 := G3.out.size
  refine ⟨some ⟨g, 0, none⟩, cap2, rfl, (Q3.out.set hne).set hne, (S3.out.set _ _).set _ _, fun x e => ?_, ?_⟩
  · obtain rfl : g = x := by simpa [blk] using e
    exact ⟨by omega, by simp [World.setCell]; omega⟩
  exact ((((B1.out.trans (B2.out.mono (by omega))).grown G3.out (by omega) (fun j e => by simp at e; omega)).setCell (by simp) _).setCell (by simp) _)

set_option maxHeartbeats 2000000 in
theorem implShapeBack_no (k : Int) (a : Option Addr) (cap : Nat) (ps : List (Int × Int)) (w : World) (hp : PtsAt w a ps) (hok : shapeOk k ps = false) :
    Calls Try.prog 10 #[.agg #[.int .i64 k, .slice a ps.length cap]] w (ShapeAns w 0 []) := by
  have HP := Lib.hid hp
  clear hp
  go_enter Try.func10, Try.ntmps10
  go_wp2_with fail
  refine (implShapeOk_any _ _ _ _ _ (HP.out.below (((Below.refl _ _).alloc (Nat.le_refl _) _).alloc (by simp) _))).mono ?_
  rintro e w1 ⟨rfl, hb1⟩
  have e0 := cell_later hb1 (a := ⟨w.heap.size + 1, 0, none⟩) (v := .int .i64 0) (by simp [go_sem])
  have e1 := cell_later hb1 (a := ⟨w.heap.size + 1, 1, none⟩) (v := .slice none 0 0) (by simp [go_sem])
  have f0 : w1.frozen? ⟨w.heap.size + 1, 0, none⟩ = false := by rw [(bcell hb1).2 _ _ (by simp)]; simp [go_sem]
  have f1 : w1.frozen? ⟨w.heap.size + 1, 1, none⟩ = false := by rw [(bcell hb1).2 _ _ (by simp)]; simp [go_sem]
  have B1 : Hid (Below w.heap.size w w1) := (((Below.refl _ _).alloc (Nat.le_refl _) _).alloc (by simp) _).trans (hb1.mono (by simp; omega))
  clear hb1
  go_wp2
  refine bodyPost_ret (v := .agg #[.int .i64 0, .slice none 0 0]) (by simp [results, Try.results10, go_sem, e0, e1]) rfl ?_
  exact nothing_ans B1.out (by omega)

theorem implShapeBack_any (k : Int) (a : Option Addr) (cap : Nat) (ps : List (Int × Int)) (w : World) (hp : PtsAt w a ps) :
    Calls Try.prog 10 #[.agg #[.int .i64 k, .slice a ps.length cap]] w (ShapeAns w (backK k ps) (backP k ps)) := by
  by_cases hok : shapeOk k ps = true
  · simp only [backK, backP, hok, if_true]
    exact implShapeBack_yes k a cap ps w hp (shapeOk_parts hok).1 hok (ok_pos' hok)
  · have hok' : shapeOk k ps = false := by simpa using hok
    simp only [backK, backP, hok', Bool.false_eq_true, if_false]
    exact implShapeBack_no k a cap ps w hp hok'

theorem backP_len {k : Int} {ps : List (Int × Int)} (h : ps.length ≤ 1048576) : (backP k ps).length ≤ 1048576 := by
  unfold backP
  split <;> simp <;> omega
end Go.Proofs.Ytdfadpejddhbkaa
