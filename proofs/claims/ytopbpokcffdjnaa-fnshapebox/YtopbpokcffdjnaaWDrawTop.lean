/- Proved here: a code is opened to a reader; the draws of a shape for the laws of the box and of the area are shapes that can be read; a code that came in as an argument. Codes of at most 1,048,576 bytes. -/
import Derived.Test.YtopbpokcffdjnaaWDrawBent
import Derived.Test.YtopbpokcffdjnaaWArg
namespace Go.Proofs.Ytopbpokcffdjnaa
set_option linter.unusedVariables false
open Go.ChangeShapes Go.WideShapes Go.ChangeAt Go.RowKit Go.Deep

/-- a new reader -/
def Opened (w : World) (a : Option Addr) (n cap : Nat) (e : Ending) (w' : World) : Prop :=
  ∃ R m, e = .returned (.pointer (some ⟨R, 0, none⟩)) ∧ w.heap.size ≤ R ∧ m ≤ 2000 ∧ Rd w' R a m cap 0 ∧ Below w.heap.size w w'

theorem CodeAt.less {w : World} {a : Option Addr} {n m : Nat} (h : CodeAt w a n) (hm : m ≤ n) : CodeAt w a m := fun i hi => h i (by omega)

theorem rd_new {w : World} {a : Option Addr} {n cap : Nat} (h : CodeAt w a n) (t : TypeId) : Rd (w.alloc (.cells #[.slice a n cap, .int .i64 0] t)) w.heap.size a n cap 0 := by
  obtain ⟨c0, c1, c2, c3⟩ := cell_two w (.slice a n cap) (.int .i64 0) t
  refine ⟨c0, c1, c3, h.below ((Below.refl _ _).alloc (Nat.le_refl _) _), fun i hi => ?_, Int.le_refl _⟩
  obtain ⟨b, off, c, e, hlt, _⟩ := h i hi
  rw [e]
  simp [blk]
  omega

set_option maxHeartbeats 1000000 in
theorem l12Open_any (a : Option Addr) (n cap : Nat) (w : World) (h : CodeAt w a n) (hl : n ≤ 1048576) (hc : n ≤ cap) :
    Calls Try.prog 35 #[.slice a n cap] w (Opened w a n cap) := by
  by_cases hn : n ≤ 2000
  · have hg : ¬ (2000 : Int) < (n : Int) := by omega
    have HR := Lib.hid (rd_new (cap := cap) h 70)
    clear h
    go_enter Try.func35, Try.ntmps35
    go_wp2
    go_ret
    exact ⟨w.heap.size, n, rfl, Nat.le_refl _, hn, HR.out, (Below.refl _ _).alloc (Nat.le_refl _) _⟩
  · have hg : (2000 : Int) < (n : Int) := by omega
    have hc2 : (2000 : Int) ≤ (cap : Int) := by omega
    have HR := Lib.hid (rd_new (cap := cap) (h.less (m := 2000) (by omega)) 70)
    obtain ⟨b, off, c, rfl, _⟩ := h 0 (by omega)
    clear h
    go_enter Try.func35, Try.ntmps35
    go_wp2
    go_ret
    exact ⟨w.heap.size, 2000, rfl, Nat.le_refl _, by omega, HR.out, (Below.refl _ _).alloc (Nat.le_refl _) _⟩

/-- a drawn shape -/
def Drawn (w : World) (e : Ending) (w' : World) : Prop :=
  ∃ (k : Int) (g c2 : Nat) (ps : List (Int × Int)), e = .returned (.agg #[.int .i64 k, .slice (some ⟨g, 0, none⟩) ps.length c2]) ∧ PtsAt w' (some ⟨g, 0, none⟩) ps ∧ ps.length ≤ 7 ∧ Below w.heap.size w w'

set_option maxHeartbeats 1000000 in
theorem drawShapeBox_any (a : Option Addr) (n cap : Nat) (w : World) (h : CodeAt w a n) (hl : n ≤ 1048576) (hc : n ≤ cap) :
    Calls Try.prog 12 #[.slice a n cap] w (Drawn w) := by
  have HC := Lib.hid h
  clear h
  go_enter Try.func12, Try.ntmps12
  go_wp2_with fail
  refine (l12Open_any _ _ _ _ (HC.out.below ((Below.refl _ _).alloc (Nat.le_refl _) _)) hl hc).mono ?_
  rintro e w1 ⟨R, m, rfl, hR, hm, hr, hb1⟩
  have hb1' : Below w.heap.size w w1 := ((Below.refl _ _).alloc (Nat.le_refl _) _).trans (hb1.mono (by simp))
  have t0 := cell_later hb1 (a := ⟨w.heap.size, 0, none⟩) (v := .int .i64 0) (by simp [go_sem])
  have t1 := cell_later hb1 (a := ⟨w.heap.size, 1, none⟩) (v := .slice none 0 0) (by simp [go_sem])
  have t2 : w1.frozen? ⟨w.heap.size, 0, none⟩ = false := by rw [(bcell hb1).2 _ _ (by simp)]; simp [go_sem]
  have t3 : w1.frozen? ⟨w.heap.size, 1, none⟩ = false := by rw [(bcell hb1).2 _ _ (by simp)]; simp [go_sem]
  have HR := Lib.hid hr
  have B1 := Lib.hid hb1'
  simp only [World.size_alloc] at hR
  have z0 : w.heap.size < w1.heap.size := World.block_lt_of_cell? _ _ t0
  clear hr hb1 hb1'
  go_wp2_with fail
  refine (l1Bent_any _ _ _ _ _ _ HR.out (by omega) hm).mono ?_
  rintro e w2 ⟨k, g, c2, ps, p', rfl, hpt, _, ⟨hg1, hg2⟩, hlen, _, _, hg⟩
  have hne : some w.heap.size ≠ some R := by simp; omega
  replace t0 := (hg.cell_far ⟨w.heap.size, 0, none⟩ z0 hne).trans t0
  replace t1 := (hg.cell_far ⟨w.heap.size, 1, none⟩ z0 hne).trans t1
  replace t2 := (hg.frozen_far ⟨w.heap.size, 0, none⟩ z0 hne).trans t2
  replace t3 := (hg.frozen_far ⟨w.heap.size, 1, none⟩ z0 hne).trans t3
  have HPT := Lib.hid hpt
  have B2 : Hid (Below w.heap.size w w2) := B1.out.grown hg B1.out.size (fun j e => by simp at e; omega)
  clear hpt hg hne
  go_wp2
  refine bodyPost_ret (v := .agg #[.int .i64 k, .slice (some ⟨g, 0, none⟩) ps.length c2]) (by simp [results, Try.results12, go_sem, t0, t1]) rfl ?_
  have hbne : blk (some ⟨g, 0, none⟩) ≠ some w.heap.size := by simp [blk]; omega
  exact ⟨k, g, c2, ps, rfl, (HPT.out.set hbne).set hbne, hlen, (B2.out.setCell (Nat.le_refl _) _).setCell (Nat.le_refl _) _⟩

set_option maxHeartbeats 1000000 in
theorem drawShapeArea_any (a : Option Addr) (n cap : Nat) (w : World) (h : CodeAt w a n) (hl : n ≤ 1048576) (hc : n ≤ cap) :
    Calls Try.prog 16 #[.slice a n cap] w (Drawn w) := by
  have HC := Lib.hid h
  clear h
  go_enter Try.func16, Try.ntmps16
  go_wp2_with fail
  refine (l12Open_any _ _ _ _ (HC.out.below ((Below.refl _ _).alloc (Nat.le_refl _) _)) hl hc).mono ?_
  rintro e w1 ⟨R, m, rfl, hR, hm, hr, hb1⟩
  have hb1' : Below w.heap.size w w1 := ((Below.refl _ _).alloc (Nat.le_refl _) _).trans (hb1.mono (by simp))
  have t0 := cell_later hb1 (a := ⟨w.heap.size, 0, none⟩) (v := .int .i64 0) (by simp [go_sem])
  have t1 := cell_later hb1 (a := ⟨w.heap.size, 1, none⟩) (v := .slice none 0 0) (by simp [go_sem])
  have t2 : w1.frozen? ⟨w.heap.size, 0, none⟩ = false := by rw [(bcell hb1).2 _ _ (by simp)]; simp [go_sem]
  have t3 : w1.frozen? ⟨w.heap.size, 1, none⟩ = false := by rw [(bcell hb1).2 _ _ (by simp)]; simp [go_sem]
  have HR := Lib.hid hr
  have B1 := Lib.hid hb1'
  simp only [World.size_alloc] at hR
  have z0 : w.heap.size < w1.heap.size := World.block_lt_of_cell? _ _ t0
  clear hr hb1 hb1'
  go_wp2_with fail
  refine (l1Bent_any _ _ _ _ _ _ HR.out (by omega) hm).mono ?_
  rintro e w2 ⟨k, g, c2, ps, p', rfl, hpt, _, ⟨hg1, hg2⟩, hlen, _, _, hg⟩
  have hne : some w.heap.size ≠ some R := by simp; omega
  replace t0 := (hg.cell_far ⟨w.heap.size, 0, none⟩ z0 hne).trans t0
  replace t1 := (hg.cell_far ⟨w.heap.size, 1, none⟩ z0 hne).trans t1
  replace t2 := (hg.frozen_far ⟨w.heap.size, 0, none⟩ z0 hne).trans t2
  replace t3 := (hg.frozen_far ⟨w.heap.size, 1, none⟩ z0 hne).trans t3
  have HPT := Lib.hid hpt
  have B2 : Hid (Below w.heap.size w w2) := B1.out.grown hg B1.out.size (fun j e => by simp at e; omega)
  clear hpt hg hne
  go_wp2
  refine bodyPost_ret (v := .agg #[.int .i64 k, .slice (some ⟨g, 0, none⟩) ps.length c2]) (by simp [results, Try.results16, go_sem, t0, t1]) rfl ?_
  have hbne : blk (some ⟨g, 0, none⟩) ≠ some w.heap.size := by simp [blk]; omega
  exact ⟨k, g, c2, ps, rfl, (HPT.out.set hbne).set hbne, hlen, (B2.out.setCell (Nat.le_refl _) _).setCell (Nat.le_refl _) _⟩

/-- a code that came in -/
theorem open_code {H : Type} {enc : TypeId × Value → H} {W : World} {r : Reach} {b0 base : Nat} {spare : Nat → Bool} {held : Bool} {v : Value} {d : DataW H} {p : List MemPlace}
    (hv : Value.okWide Try.prog W r b0 22 v) (h : DataW.Trod enc Try.prog W base spare held 22 v d p) :
    ∃ (a : Option Addr) (n cap : Nat), v = .slice a n cap ∧ CodeAt W a n ∧ n ≤ cap ∧ n ≤ maxLen := by
  obtain ⟨a0, len, cap, rfl⟩ := okWide_slice Try.underlying22 hv
  obtain ⟨fuel, hf⟩ := h
  rcases open_ints Try.underlying22 Try.underlying5 (by kernel_rfl) hf with ⟨hcs, _⟩ | ⟨x, l, c, zs, hcs, _, hl, hm, hz, _, hcell, hwz⟩
  · simp [Value.cells] at hcs
    obtain ⟨rfl, rfl, rfl⟩ := hcs
    exact ⟨none, 0, 0, rfl, fun i hi => absurd hi (Nat.not_lt_zero _), Nat.le_refl _, Nat.zero_le _⟩
  · simp [Value.cells] at hcs
    obtain ⟨rfl, rfl, rfl⟩ := hcs
    have hlz : len ≤ zs.length := by
      rw [hz]
      split <;> omega
    refine ⟨some x, len, cap, rfl, fun i hi => ?_, hl, by omega⟩
    have h0 := hcell 0 (by omega)
    obtain ⟨b, off, spot⟩ := x
    have hspot : spot = none := by simpa [Addr.add] using World.cell?_spot h0
    subst hspot
    have hi' := hcell i (by omega)
    rw [add_plain] at hi'
    have hb := bounds_u8 (hwz (zs.getD i 0) (by rw [List.getD_eq_getElem?_getD, List.getElem?_eq_getElem (by omega)]; exact List.getElem_mem _))
    exact ⟨b, off, zs.getD i 0, rfl, World.block_lt_of_cell? _ _ hi', hi', hb.1, hb.2⟩
end Go.Proofs.Ytopbpokcffdjnaa
