/- Proved here: what is drawn for the law of the moved shape is a shape that can be read, and two numbers. -/
import Derived.Test.YtdfadpejddhbkaaWDrawTop
import Derived.Deep.RegionHeld3
namespace Go.Proofs.Ytdfadpejddhbkaa
set_option linter.unusedVariables false
open Go.ChangeShapes Go.WideShapes Go.ChangeAt Go.RowKit Go.Deep

/-- what DrawShapeMove answers -/
def MoveDrawn (w : World) (e : Ending) (w' : World) : Prop :=
  ∃ (k : Int) (g c2 : Nat) (ps : List (Int × Int)) (dx dy : Int), e = .returned (.tuple #[.agg #[.int .i64 k, .slice (some ⟨g, 0, none⟩) ps.length c2], .int .i64 dx, .int .i64 dy]) ∧ PtsAt w' (some ⟨g, 0, none⟩) ps ∧ ps.length ≤ 7 ∧ (-2001 ≤ dx ∧ dx ≤ 2001) ∧ (-2001 ≤ dy ∧ dy ≤ 2001) ∧ Below w.heap.size w w'

set_option maxRecDepth 100000 in
set_option maxHeartbeats 4000000 in
theorem drawShapeMove_any (a : Option Addr) (n cap : Nat) (w : World) (h : CodeAt w a n) (hl : n ≤ 1048576) (hc : n ≤ cap) :
    Calls Try.prog 18 #[.slice a n cap] w (MoveDrawn w) := by
  have HC := Lib.hid h
  clear h
  go_enter Try.func18, Try.ntmps18
  go_wp2_with fail
  refine (l12Open_any _ _ _ _ (HC.out.below ((Below.refl _ _).alloc (Nat.le_refl _) _)) hl hc).mono ?_
  rintro e w1 ⟨R, m, rfl, hR, hm, hr, hb1⟩
  have hb1' : Below w.heap.size w w1 := ((Below.refl _ _).alloc (Nat.le_refl _) _).trans (hb1.mono (by simp))
  have t0 := cell_later hb1 (a := ⟨w.heap.size, 0, none⟩) (v := .int .i64 0) (by simp [go_sem])
  have t1 := cell_later hb1 (a := ⟨w.heap.size, 1, none⟩) (v := .slice none 0 0) (by simp [go_sem])
  have t2 : w1.frozen? ⟨w.heap.size, 0, none⟩ = false := by rw [(bcell hb1).2 _ _ (by simp)]; simp [go_sem]
  have t3 : w1.frozen? ⟨w.heap.size, 1, none⟩ = false := by rw [(bcell hb1).2 _ _ (by simp)]; simp [go_sem]
  have HR := Lib.hid hr
  have B1 := Lib.hid hb1'
  simp only [World.size_alloc] at hR
  have z0 : w.heap.size < w1.heap.size := World.block_lt_of_cell? _ _ t0
  clear hr hb1 hb1'
  go_wp2_with fail
  refine (l1Bent_any _ _ _ _ _ _ HR.out (by omega) hm).mono ?_
  rintro e w2 ⟨k, g, c2, ps, p', rfl, hpt, _, ⟨hg1, hg2⟩, hlen, hr, hp', hg⟩
  have hne : some w.heap.size ≠ some R := by simp; omega
  replace t0 := (hg.cell_far ⟨w.heap.size, 0, none⟩ z0 hne).trans t0
  replace t1 := (hg.cell_far ⟨w.heap.size, 1, none⟩ z0 hne).trans t1
  replace t2 := (hg.frozen_far ⟨w.heap.size, 0, none⟩ z0 hne).trans t2
  replace t3 := (hg.frozen_far ⟨w.heap.size, 1, none⟩ z0 hne).trans t3
  have zR := HR.out.lt
  have D2 := Lib.hid hr
  have HPT := Lib.hid hpt
  have B2 : Hid (Below w.heap.size w w2) := B1.out.grown hg B1.out.size (fun j e => by simp at e; omega)
  have z2 : w.heap.size < w2.heap.size := World.block_lt_of_cell? _ _ t0
  clear hpt hg hr HR B1
  go_wp2_with fail
  refine (num_any R (w2.heap.size + 1) 7 a m cap p' (-1000) 2001 _ ((D2.out.alloc _).alloc _) (by omega) hm (fun i hi => ?_) (by omega) (by omega) (by omega)).mono ?_
  · have : i = 0 ∨ i = 1 ∨ i = 2 ∨ i = 3 ∨ i = 4 ∨ i = 5 ∨ i = 6 := by omega
    rcases this with rfl | rfl | rfl | rfl | rfl | rfl | rfl
    · exact ⟨0, by simp [go_sem], by omega, by omega⟩
    · exact ⟨1, by simp [go_sem], by omega, by omega⟩
    · exact ⟨-3, by simp [go_sem], by omega, by omega⟩
    · exact ⟨7, by simp [go_sem], by omega, by omega⟩
    · exact ⟨1000, by simp [go_sem], by omega, by omega⟩
    · exact ⟨-1000, by simp [go_sem], by omega, by omega⟩
    · exact ⟨2001, by simp [go_sem], by omega, by omega⟩
  rintro e w3 ⟨dx, rfl, hd1, hd2, hr, hg, hs⟩
  have d0 : w3.cell? ⟨w2.heap.size, 0, none⟩ = some (.int .i64 k) := (hg.cell_far ⟨w2.heap.size, 0, none⟩ (by simp; omega) (by simp; omega)).trans (by simp [go_sem])
  have d1 : w3.cell? ⟨w2.heap.size, 1, none⟩ = some (.slice (some ⟨g, 0, none⟩) ps.length c2) := (hg.cell_far ⟨w2.heap.size, 1, none⟩ (by simp; omega) (by simp; omega)).trans (by simp [go_sem])
  have hg' : w2.grownBy w3 (some R) := ((World.grownBy_alloc w2 _ (some R)).trans (World.grownBy_alloc _ _ (some R))).trans hg
  replace t0 := (hg'.cell_far ⟨w.heap.size, 0, none⟩ z2 hne).trans t0
  replace t1 := (hg'.cell_far ⟨w.heap.size, 1, none⟩ z2 hne).trans t1
  replace t2 := (hg'.frozen_far ⟨w.heap.size, 0, none⟩ z2 hne).trans t2
  replace t3 := (hg'.frozen_far ⟨w.heap.size, 1, none⟩ z2 hne).trans t3
  have D3 := Lib.hid hr
  have P3 : Hid (PtsAt w3 (some ⟨g, 0, none⟩) ps) := HPT.out.grown hg' (.inr (by simp [blk]; omega))
  have B3 : Hid (Below w.heap.size w w3) := B2.out.grown hg' B2.out.size (fun j e => by simp at e; omega)
  have z3 : w.heap.size < w3.heap.size := World.block_lt_of_cell? _ _ t0
  have z4 : w2.heap.size < w3.heap.size := World.block_lt_of_cell? _ _ d0
  clear hg hr hs hg' D2 HPT B2
  go_upto_region 4 with (fail)
  go_region_held3 (fun w' => w'.cell? ⟨w2.heap.size, 0, none⟩ = some (.int .i64 k) ∧ w'.cell? ⟨w2.heap.size, 1, none⟩ = some (.slice (some ⟨g, 0, none⟩) ps.length c2))
    (first
      | exact ⟨d0, d1⟩
      | (simp [go_sem, d0, d1, z4]; done)
      | (simp [go_sem, hdn]; done)
      | exact hdn)
    (first
      | (go_at_call 41
         refine (num_any R w3.heap.size 5 a m cap (p' + 1) (-2001) 1000 _ ?_ (by omega) hm ?_ (by omega) (by omega) (by omega)).mono ?_
         · (first | exact D3.out.alloc _ | exact (D3.out.alloc _).drew)
         · (intro i hi
            have : i = 0 ∨ i = 1 ∨ i = 2 ∨ i = 3 ∨ i = 4 := by omega
            rcases this with rfl | rfl | rfl | rfl | rfl
            · exact ⟨0, by simp [go_sem], by omega, by omega⟩
            · exact ⟨2, by simp [go_sem], by omega, by omega⟩
            · exact ⟨-1, by simp [go_sem], by omega, by omega⟩
            · exact ⟨1000, by simp [go_sem], by omega, by omega⟩
            · exact ⟨-2001, by simp [go_sem], by omega, by omega⟩)
         rintro e wn ⟨dy, rfl, he1, he2, hr, hg, hs⟩
         have hg' : w3.grownBy wn (some R) := (World.grownBy_alloc w3 (.cells #[.int .i64 0, .int .i64 2, .int .i64 (-1), .int .i64 1000, .int .i64 (-2001)] 3) (some R)).trans ⟨hg.os, hg.tape, hg.output, hg.size, hg.block⟩
         have hdn : wn.cell? ⟨w2.heap.size, 0, none⟩ = some (.int .i64 k) ∧ wn.cell? ⟨w2.heap.size, 1, none⟩ = some (.slice (some ⟨g, 0, none⟩) ps.length c2) := ⟨(hg'.cell_far ⟨w2.heap.size, 0, none⟩ z4 (by simp; omega)).trans d0, (hg'.cell_far ⟨w2.heap.size, 1, none⟩ z4 (by simp; omega)).trans d1⟩
         have l0 : wn.cell? ⟨w.heap.size, 0, none⟩ = some (.int .i64 0) := (hg'.cell_far ⟨w.heap.size, 0, none⟩ z3 hne).trans t0
         have l1 : wn.cell? ⟨w.heap.size, 1, none⟩ = some (.slice none 0 0) := (hg'.cell_far ⟨w.heap.size, 1, none⟩ z3 hne).trans t1
         have l2 : wn.frozen? ⟨w.heap.size, 0, none⟩ = false := (hg'.frozen_far ⟨w.heap.size, 0, none⟩ z3 hne).trans t2
         have l3 : wn.frozen? ⟨w.heap.size, 1, none⟩ = false := (hg'.frozen_far ⟨w.heap.size, 1, none⟩ z3 hne).trans t3))
  all_goals
    have P4 : Hid (PtsAt wn (some ⟨g, 0, none⟩) ps) := P3.out.grown hg' (.inr (by simp [blk]; omega))
    have B4 : Hid (Below w.heap.size w wn) := B3.out.grown hg' B3.out.size (fun j e => by simp at e; omega)
    have hbne : blk (some ⟨g, 0, none⟩) ≠ some w.heap.size := by simp [blk]; omega
    clear hr hg hg' hs t0 t1 t2 t3 d0 d1 hdn
    go_wp2
    refine bodyPost_ret (v := .tuple #[.agg #[.int .i64 k, .slice (some ⟨g, 0, none⟩) ps.length c2], .int .i64 dx, .int .i64 dy]) (by simp [results, Try.results18, go_sem, l0, l1]) rfl ?_
    exact ⟨k, g, c2, ps, dx, dy, rfl, (P4.out.set hbne).set hbne, hlen, ⟨by omega, by omega⟩, ⟨by omega, by omega⟩, (B4.out.setCell (Nat.le_refl _) _).setCell (Nat.le_refl _) _⟩
end Go.Proofs.Ytdfadpejddhbkaa
