/- Proved here: the draw of a point is a point from 0 to 5 each way, and turns nothing but the reader's place; codes of at most 2,000 bytes. -/
import Derived.Test.YtdfadpejddhbkaaWDraw
namespace Go.Proofs.Ytdfadpejddhbkaa
set_option linter.unusedVariables false
open Go.ChangeShapes Go.WideShapes Go.ChangeAt Go.RowKit

theorem Rd.lt {w : World} {R : Nat} {a : Option Addr} {len cap : Nat} {p : Int} (h : Rd w R a len cap p) : R < w.heap.size := World.block_lt_of_cell? _ _ h.place

theorem Rd.kept {w w' : World} {R : Nat} {a : Option Addr} {len cap : Nat} {p : Int} {r : Option Nat} (h : Rd w R a len cap p) (hg : w.grownBy w' r) (h1 : r ≠ some R) (h2 : ∀ i, i < len → blk a ≠ r) : Rd w' R a len cap p := by
  refine ⟨(hg.cell_far _ h.lt (Ne.symm h1)).trans h.code, (hg.cell_far _ h.lt (Ne.symm h1)).trans h.place, (hg.frozen_far _ h.lt (Ne.symm h1)).trans h.soft, ?_, h.far, h.lo⟩
  intro i hi
  obtain ⟨b, off, c, e, hlt, h3, h4⟩ := h.bytes i hi
  have hne : some b ≠ r := by have := h2 i hi; rw [e] at this; exact this
  exact ⟨b, off, c, e, Nat.lt_of_lt_of_le hlt hg.size, (hg.cell_far ⟨b, off + i, none⟩ hlt hne).trans h3, h4⟩

theorem Rd.codeLt {w : World} {R : Nat} {a : Option Addr} {len cap : Nat} {p : Int} (h : Rd w R a len cap p) {c : Nat} (hc : w.heap.size ≤ c) : ∀ i, i < len → blk a ≠ some c := by
  intro i hi
  obtain ⟨b, off, x, e, hlt, _⟩ := h.bytes i hi
  rw [e]
  simp [blk]
  omega

theorem Rd.alloc {w : World} {R : Nat} {a : Option Addr} {len cap : Nat} {p : Int} (h : Rd w R a len cap p) (O : Obj) : Rd (w.alloc O) R a len cap p :=
  h.kept (r := none) (World.grownBy_alloc w O none) (by simp) (fun i hi => by obtain ⟨b, off, c, e, _⟩ := h.bytes i hi; rw [e]; simp [blk])

theorem grown_set_new {w w' : World} {r : Option Nat} (h : w.grownBy w' r) {c o : Nat} {v : Value} (hc : w.heap.size ≤ c) : w.grownBy (w'.setCell ⟨c, o, none⟩ v) r :=
  ⟨h.os, h.tape, h.output, Nat.le_trans h.size (by simp [World.setCell]), fun k hk hne => (Below.heap_setCell _ _ _ _ (by show k ≠ c; omega)).trans (h.block k hk hne)⟩

theorem grown_alloc {w w' : World} {r : Option Nat} (h : w.grownBy w' r) (O : Obj) : w.grownBy (w'.alloc O) r := h.trans (World.grownBy_alloc w' O r)

theorem grown_self {w a b : World} {R : Nat} (h : w.grownBy a (some R)) (k : a.grownBy b (some R)) : w.grownBy b (some R) := h.trans k

/-- what drawing a point leaves -/
def PtDrawn (w : World) (R : Nat) (a : Option Addr) (len cap : Nat) (p : Int) (e : Ending) (w' : World) : Prop :=
  ∃ x y : Int, e = .returned (.agg #[.int .i64 x, .int .i64 y]) ∧ (0 ≤ x ∧ x ≤ 5) ∧ (0 ≤ y ∧ y ≤ 5) ∧ Rd w' R a len cap (p + 2) ∧ w.grownBy w' (some R)

set_option maxHeartbeats 2000000 in
theorem l1Pt_any (R : Nat) (a : Option Addr) (len cap : Nat) (p : Int) (w : World) (h : Rd w R a len cap p) (hp : p ≤ 90000) (hl : len ≤ 2000) :
    Calls Try.prog 71 #[.pointer (some ⟨R, 0, none⟩)] w (PtDrawn w R a len cap p) := by
  have HR := Lib.hid h
  have hRlt := h.lt
  clear h
  go_enter Try.func71, Try.ntmps71
  go_wp2_with fail
  refine (pick_any _ _ _ _ _ _ _ (HR.out.alloc _) (by omega) hl (by omega) (by omega)).mono ?_
  rintro e w1 ⟨x, rfl, hx0, hx1, hr, hg, hs⟩
  have t0 : w1.cell? ⟨w.heap.size, 0, none⟩ = some (.int .i64 0) := (hg.cell_far _ (by simp) (by simp; omega)).trans (by simp [go_sem])
  have t1 : w1.cell? ⟨w.heap.size, 1, none⟩ = some (.int .i64 0) := (hg.cell_far _ (by simp) (by simp; omega)).trans (by simp [go_sem])
  have t2 : w1.frozen? ⟨w.heap.size, 0, none⟩ = false := (hg.frozen_far _ (by simp) (by simp; omega)).trans (by simp [go_sem])
  have t3 : w1.frozen? ⟨w.heap.size, 1, none⟩ = false := (hg.frozen_far _ (by simp) (by simp; omega)).trans (by simp [go_sem])
  have hs1 : w1.heap.size = w.heap.size + 1 := by simpa using hs
  have HR1 := Lib.hid hr
  have G1 : Hid (w.grownBy w1 (some R)) := (World.grownBy_alloc w _ _).trans hg
  have HS1 := Lib.hid hs1
  have z0 : w.heap.size < w1.heap.size := by omega
  clear hr hg hs hs1
  go_wp2_with fail
  refine (num_any _ _ 4 _ _ _ _ 0 5 _ (HR1.out.alloc _) (by omega) hl (fun i hi => ?_) (by omega) (by omega) (by omega)).mono ?_
  · have : i = 0 ∨ i = 1 ∨ i = 2 ∨ i = 3 := by omega
    rcases this with rfl | rfl | rfl | rfl
    · exact ⟨0, by simp [go_sem], by omega, by omega⟩
    · exact ⟨1, by simp [go_sem], by omega, by omega⟩
    · exact ⟨2, by simp [go_sem], by omega, by omega⟩
    · exact ⟨5, by simp [go_sem], by omega, by omega⟩
  rintro e w2 ⟨y, rfl, hy0, hy1, hr, hg, hs⟩
  have ba := World.grownBy_alloc w1 (.cells #[.int .i64 0, .int .i64 1, .int .i64 2, .int .i64 5] 3) (some R)
  have hg' := ba.trans hg
  have hne : some w.heap.size ≠ some R := by simp; omega
  replace t0 := (hg'.cell_far ⟨w.heap.size, 0, none⟩ z0 hne).trans t0
  replace t1 := (hg'.cell_far ⟨w.heap.size, 1, none⟩ z0 hne).trans t1
  replace t2 := (hg'.frozen_far ⟨w.heap.size, 0, none⟩ z0 hne).trans t2
  replace t3 := (hg'.frozen_far ⟨w.heap.size, 1, none⟩ z0 hne).trans t3
  have HR2 := Lib.hid hr
  have G2 : Hid (w.grownBy w2 (some R)) := G1.out.trans hg'
  have z2 : w.heap.size < w2.heap.size := Nat.lt_of_lt_of_le z0 hg'.size
  clear hr hg hs ba hg' hne
  go_wp2
  refine bodyPost_ret (v := .agg #[.int .i64 x, .int .i64 y]) (by simp [results, Try.results71, go_sem, t0, t1]) rfl ?_
  refine ⟨x, y, rfl, ⟨hx0, by omega⟩, ⟨hy0, hy1⟩, ?_, grown_set_new (grown_set_new G2.out (Nat.le_refl _)) (Nat.le_refl _)⟩
  have hk : w2.grownBy ((w2.setCell ⟨w.heap.size, 0, none⟩ (.int .i64 x)).setCell ⟨w.heap.size, 1, none⟩ (.int .i64 y)) (some w.heap.size) := grown_set (grown_set (World.grownBy.refl _ _) _ _) _ _
  have := HR2.out.kept hk (by simp; omega) (fun i hi => HR.out.codeLt (Nat.le_refl _) i hi)
  have e : p + 1 + 1 = p + 2 := by omega
  rwa [e] at this
end Go.Proofs.Ytdfadpejddhbkaa
