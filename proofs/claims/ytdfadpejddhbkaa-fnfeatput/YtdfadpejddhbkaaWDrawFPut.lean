/- Proved here: what is drawn for the laws of a thing, a key and a value is a thing that can be read, and two short texts. -/
import Derived.Test.YtdfadpejddhbkaaWDrawBentF
import Derived.Test.YtdfadpejddhbkaaWDrawTop
import Derived.Test.YtdfadpejddhbkaaWFeatCutS
import Derived.Deep.RegionHeld3
namespace Go.Proofs.Ytdfadpejddhbkaa
set_option linter.unusedVariables false
open Go.ChangeShapes Go.WideShapes Go.ChangeAt Go.RowKit Go.Deep

/-- what DrawFeatPut answers -/
def FPutDrawn (w : World) (e : Ending) (w' : World) : Prop :=
  ∃ (id : ByteArray) (k : Int) (pa : Option Addr) (pc : Nat) (ps : List (Int × Int)) (ta : Option Addr) (tc : Nat) (ts : List Tg) (key val : ByteArray), e = .returned (.tuple #[.agg #[.string id, .int .i64 k, .slice pa ps.length pc, .slice ta ts.length tc], .string key, .string val]) ∧
    PtsAt w' pa ps ∧ TagsAt w' ta ts ∧ id.size ≤ 8 ∧ ps.length ≤ 7 ∧ ts.length ≤ 4 ∧ TagsLen ts 8 ∧ key.size ≤ 8 ∧ val.size ≤ 8 ∧ Below w.heap.size w w'

set_option maxRecDepth 100000 in
set_option maxHeartbeats 4000000 in
theorem drawFeatPut_any (a : Option Addr) (n cap : Nat) (w : World) (h : CodeAt w a n) (hl : n ≤ 1048576) (hc : n ≤ cap) :
    Calls Try.prog 31 #[.slice a n cap] w (FPutDrawn w) := by
  have HC := Lib.hid h
  clear h
  have A0 : Hid (∀ o, Below w.heap.size w (w.alloc o)) := fun o => (Below.refl _ _).alloc (Nat.le_refl _) _
  go_enter Try.func31, Try.ntmps31
  go_wp2_with fail
  refine (l12Open_any _ _ _ _ (HC.out.below (A0.out _)) hl hc).mono ?_
  rintro e w1 ⟨R, m, rfl, hR, hm, hr, hb1⟩
  simp only [World.size_alloc] at hR
  have D1 := Lib.hid hr
  have B1 : Hid (Below w.heap.size w w1) := (A0.out _).trans (hb1.mono (by simp))
  have RB : Hid (BoxS w1 w.heap.size (.string ⟨#[]⟩) (.int .i64 0) (.slice none 0 0) (.slice none 0 0)) := (BoxS.new w _ _ _ _ _).later hb1
  have z1 : w.heap.size < w1.heap.size := RB.out.1.lt
  have nR : w.heap.size ≠ R := by omega
  clear hr hb1 A0
  go_wp2_with fail
  refine (l2Bent_any _ _ _ _ _ _ D1.out (by omega) (by omega)).mono ?_
  rintro e w2 ⟨id, k, pa, pc, ps, ta, tc, ts, p', rfl, hid, hpt, hpr, hpl, htr, htl, hts, hr, hp3, hg, hne⟩
  obtain ⟨ta', tc', et, htt, _, htf⟩ := owned_tags htr rfl
  obtain ⟨rfl, rfl⟩ : ta = ta' ∧ tc = tc' := by simpa using et
  have NP : Hid (blk pa ≠ some R) := fun e => by have h1 := (hpr R e).1; have h2 := D1.out.lt; omega
  have NT : Hid (blk ta ≠ some R) := fun e => by have h1 := (htf R e).1; have h2 := D1.out.lt; omega
  have NP0 : Hid (blk pa ≠ some w.heap.size) := fun e => by have h1 := (hpr _ e).1; omega
  have NT0 : Hid (blk ta ≠ some w.heap.size) := fun e => by have h1 := (htf _ e).1; omega
  have keep : Hid (∀ {u v : World}, w.heap.size < u.heap.size → u.grownBy v (some R) → BoxS u w.heap.size (.string ⟨#[]⟩) (.int .i64 0) (.slice none 0 0) (.slice none 0 0) → BoxS v w.heap.size (.string ⟨#[]⟩) (.int .i64 0) (.slice none 0 0) (.slice none 0 0)) := fun hu hg h =>
    ⟨⟨(hg.cell_far ⟨w.heap.size, 0, none⟩ hu (by simp; omega)).trans h.1.1, (hg.cell_far ⟨w.heap.size, 1, none⟩ hu (by simp; omega)).trans h.1.2.1, (hg.cell_far ⟨w.heap.size, 2, none⟩ hu (by simp; omega)).trans h.1.2.2.1, (hg.cell_far ⟨w.heap.size, 3, none⟩ hu (by simp; omega)).trans h.1.2.2.2⟩, fun o => (hg.frozen_far ⟨w.heap.size, o, none⟩ hu (by simp; omega)).trans (h.2 o)⟩
  have R2 := Lib.hid (keep.out z1 hg RB.out)
  have z2 : w.heap.size < w2.heap.size := R2.out.1.lt
  have zR := D1.out.lt
  have zr2 : w1.heap.size ≤ w2.heap.size := hg.size
  have D2 := Lib.hid hr
  have P2 := Lib.hid hpt
  have T2 := Lib.hid htt
  have B2 : Hid (Below w.heap.size w w2) := B1.out.grown hg B1.out.size (fun j e => by simp at e; omega)
  clear hpt htt hr hg hpr htr htf hne et RB D1 B1
  go_wp2_with fail
  refine (of_any R (w2.heap.size + 1) 7 a m cap p' _ ((D2.out.alloc _).alloc _) (by omega) hm (fun i hi => ?_) (by omega) (by omega) (by omega)).mono ?_
  · have : i = 0 ∨ i = 1 ∨ i = 2 ∨ i = 3 ∨ i = 4 ∨ i = 5 ∨ i = 6 := by omega
    rcases this with rfl | rfl | rfl | rfl | rfl | rfl | rfl
    · exact ⟨⟨#[110, 97, 109, 101]⟩, by simp [go_sem], by decide⟩
    · exact ⟨⟨#[107, 105, 110, 100]⟩, by simp [go_sem], by decide⟩
    · exact ⟨⟨#[117, 115, 101]⟩, by simp [go_sem], by decide⟩
    · exact ⟨⟨#[116, 111, 110, 101]⟩, by simp [go_sem], by decide⟩
    · exact ⟨⟨#[110, 101, 119]⟩, by simp [go_sem], by decide⟩
    · exact ⟨⟨#[]⟩, by simp [go_sem], by decide⟩
    · exact ⟨⟨#[75]⟩, by simp [go_sem], by decide⟩
  rintro e w3 ⟨key, rfl, hkey, hr, hg⟩
  have c0 : w3.cell? ⟨w2.heap.size, 0, none⟩ = some (.string id) := (hg.cell_far ⟨w2.heap.size, 0, none⟩ (by simp; omega) (by simp; omega)).trans (by simp [go_sem])
  have c1 : w3.cell? ⟨w2.heap.size, 1, none⟩ = some (.int .i64 k) := (hg.cell_far ⟨w2.heap.size, 1, none⟩ (by simp; omega) (by simp; omega)).trans (by simp [go_sem])
  have c2 : w3.cell? ⟨w2.heap.size, 2, none⟩ = some (.slice pa ps.length pc) := (hg.cell_far ⟨w2.heap.size, 2, none⟩ (by simp; omega) (by simp; omega)).trans (by simp [go_sem])
  have c3 : w3.cell? ⟨w2.heap.size, 3, none⟩ = some (.slice ta ts.length tc) := (hg.cell_far ⟨w2.heap.size, 3, none⟩ (by simp; omega) (by simp; omega)).trans (by simp [go_sem])
  have hg' : w2.grownBy w3 (some R) := ((World.grownBy_alloc w2 _ (some R)).trans (World.grownBy_alloc _ _ (some R))).trans hg
  have R3 := Lib.hid (keep.out z2 hg' R2.out)
  have D3 := Lib.hid hr
  have P3 : Hid (PtsAt w3 pa ps) := P2.out.grown hg' (.inr NP.out)
  have T3 : Hid (TagsAt w3 ta ts) := T2.out.grown hg' (.inr NT.out)
  have B3 : Hid (Below w.heap.size w w3) := B2.out.grown hg' B2.out.size (fun j e => by simp at e; omega)
  have z3 : w.heap.size < w3.heap.size := R3.out.1.lt
  have z4 : w2.heap.size < w3.heap.size := World.block_lt_of_cell? _ _ c0
  clear hg hr hg' D2 P2 T2 B2 R2
  go_upto_region 4 with (fail)
  go_region_held3 (fun w' => w'.cell? ⟨w2.heap.size, 0, none⟩ = some (.string id) ∧ w'.cell? ⟨w2.heap.size, 1, none⟩ = some (.int .i64 k) ∧ w'.cell? ⟨w2.heap.size, 2, none⟩ = some (.slice pa ps.length pc) ∧ w'.cell? ⟨w2.heap.size, 3, none⟩ = some (.slice ta ts.length tc))
    (first
      | exact ⟨c0, c1, c2, c3⟩
      | (simp [go_sem, c0, c1, c2, c3, z4]; done)
      | (simp [go_sem, hdn]; done)
      | exact hdn)
    (first
      | (go_at_call 56
         refine (of_any R w3.heap.size 4 a m cap (p' + 1) _ ?_ (by omega) hm ?_ (by omega) (by omega) (by omega)).mono ?_
         · (first | exact D3.out.alloc _ | exact (D3.out.alloc _).drew)
         · (intro i hi
            have : i = 0 ∨ i = 1 ∨ i = 2 ∨ i = 3 := by omega
            rcases this with rfl | rfl | rfl | rfl
            · exact ⟨⟨#[97]⟩, by simp [go_sem], by decide⟩
            · exact ⟨⟨#[111, 97, 107]⟩, by simp [go_sem], by decide⟩
            · exact ⟨⟨#[]⟩, by simp [go_sem], by decide⟩
            · exact ⟨⟨#[86]⟩, by simp [go_sem], by decide⟩)
         rintro e wn ⟨val, rfl, hval, hr, hg⟩
         have hg' : w3.grownBy wn (some R) := (World.grownBy_alloc w3 (.cells #[.string ⟨#[97]⟩, .string ⟨#[111, 97, 107]⟩, .string ⟨#[]⟩, .string ⟨#[86]⟩] 9) (some R)).trans ⟨hg.os, hg.tape, hg.output, hg.size, hg.block⟩
         have hdn : wn.cell? ⟨w2.heap.size, 0, none⟩ = some (.string id) ∧ wn.cell? ⟨w2.heap.size, 1, none⟩ = some (.int .i64 k) ∧ wn.cell? ⟨w2.heap.size, 2, none⟩ = some (.slice pa ps.length pc) ∧ wn.cell? ⟨w2.heap.size, 3, none⟩ = some (.slice ta ts.length tc) := ⟨(hg'.cell_far ⟨w2.heap.size, 0, none⟩ z4 (by simp; omega)).trans c0, (hg'.cell_far ⟨w2.heap.size, 1, none⟩ z4 (by simp; omega)).trans c1, (hg'.cell_far ⟨w2.heap.size, 2, none⟩ z4 (by simp; omega)).trans c2, (hg'.cell_far ⟨w2.heap.size, 3, none⟩ z4 (by simp; omega)).trans c3⟩
         obtain ⟨⟨r0, r1, r2, r3⟩, rs⟩ := keep.out z3 hg' R3.out
         have s0 := rs 0
         have s1 := rs 1
         have s2 := rs 2
         have s3 := rs 3))
  all_goals
    have P4 : Hid (PtsAt wn pa ps) := P3.out.grown hg' (.inr NP.out)
    have T4 : Hid (TagsAt wn ta ts) := T3.out.grown hg' (.inr NT.out)
    have B4 : Hid (Below w.heap.size w wn) := B3.out.grown hg' B3.out.size (fun j e => by simp at e; omega)
    clear hr hg hg' c0 c1 c2 c3 hdn rs
    go_wp2
    refine bodyPost_ret (v := .tuple #[.agg #[.string id, .int .i64 k, .slice pa ps.length pc, .slice ta ts.length tc], .string key, .string val]) (by simp [results, Try.results31, go_sem, r0, r1, r2, r3]) rfl ?_
    exact ⟨id, k, pa, pc, ps, ta, tc, ts, key, val, rfl, (((P4.out.set NP0.out).set NP0.out).set NP0.out).set NP0.out, (((T4.out.set NT0.out).set NT0.out).set NT0.out).set NT0.out, hid, hpl, htl, hts, hkey, hval, (((B4.out.setCell (Nat.le_refl _) _).setCell (Nat.le_refl _) _).setCell (Nat.le_refl _) _).setCell (Nat.le_refl _) _⟩
end Go.Proofs.Ytdfadpejddhbkaa
