/- Proved here: what is drawn for the laws of a thing and a key is a thing that can be read, and a short text. -/
import Derived.Test.YtdfadpejddhbkaaWDrawBentF
import Derived.Test.YtdfadpejddhbkaaWDrawTop
import Derived.Test.YtdfadpejddhbkaaWFeatCutS
import Derived.Deep.RegionHeld3
namespace Go.Proofs.Ytdfadpejddhbkaa
set_option linter.unusedVariables false
open Go.ChangeShapes Go.WideShapes Go.ChangeAt Go.RowKit Go.Deep

/-- what DrawFeatGet answers -/
def FGetDrawn (w : World) (e : Ending) (w' : World) : Prop :=
  ∃ (id : ByteArray) (k : Int) (pa : Option Addr) (pc : Nat) (ps : List (Int × Int)) (ta : Option Addr) (tc : Nat) (ts : List Tg) (key : ByteArray), e = .returned (.tuple #[.agg #[.string id, .int .i64 k, .slice pa ps.length pc, .slice ta ts.length tc], .string key]) ∧
    PtsAt w' pa ps ∧ TagsAt w' ta ts ∧ id.size ≤ 8 ∧ ps.length ≤ 7 ∧ ts.length ≤ 4 ∧ TagsLen ts 8 ∧ key.size ≤ 8 ∧ (∀ x, blk pa = some x → w.heap.size ≤ x) ∧ (∀ x, blk ta = some x → w.heap.size ≤ x) ∧ Below w.heap.size w w'

set_option maxRecDepth 100000 in
set_option maxHeartbeats 4000000 in
theorem drawFeatGet_any (a : Option Addr) (n cap : Nat) (w : World) (h : CodeAt w a n) (hl : n ≤ 1048576) (hc : n ≤ cap) :
    Calls Try.prog 46 #[.slice a n cap] w (FGetDrawn w) := by
  have HC := Lib.hid h
  clear h
  have A0 : Hid (∀ o, Below w.heap.size w (w.alloc o)) := fun o => (Below.refl _ _).alloc (Nat.le_refl _) _
  go_enter Try.func46, Try.ntmps46
  go_wp2_with fail
  refine (l12Open_any _ _ _ _ (HC.out.below (A0.out _)) hl hc).mono ?_
  rintro e w1 ⟨R, m, rfl, hR, hm, hr, hb1⟩
  simp only [World.size_alloc] at hR
  have D1 := Lib.hid hr
  have B1 : Hid (Below w.heap.size w w1) := (A0.out _).trans (hb1.mono (by simp))
  have RB : Hid (BoxS w1 w.heap.size (.string ⟨#[]⟩) (.int .i64 0) (.slice none 0 0) (.slice none 0 0)) := (BoxS.new w _ _ _ _ _).later hb1
  have z1 : w.heap.size < w1.heap.size := RB.out.1.lt
  have nR : w.heap.size ≠ R := by omega
  clear hr hb1 A0
  go_wp2_with fail
  refine (l2Bent_any _ _ _ _ _ _ D1.out (by omega) (by omega)).mono ?_
  rintro e w2 ⟨id, k, pa, pc, ps, ta, tc, ts, p', rfl, hid, hpt, hpr, hpl, htr, htl, hts, hr, hp3, hg, hne⟩
  obtain ⟨ta', tc', et, htt, _, htf⟩ := owned_tags htr rfl
  obtain ⟨rfl, rfl⟩ : ta = ta' ∧ tc = tc' := by simpa using et
  have NP : Hid (blk pa ≠ some R) := fun e => by have h1 := (hpr R e).1; have h2 := D1.out.lt; omega
  have NT : Hid (blk ta ≠ some R) := fun e => by have h1 := (htf R e).1; have h2 := D1.out.lt; omega
  have NP1 : Hid (∀ x, blk pa = some x → w.heap.size ≤ x) := fun x e => by have h1 := (hpr _ e).1; omega
  have NT1 : Hid (∀ x, blk ta = some x → w.heap.size ≤ x) := fun x e => by have h1 := (htf _ e).1; omega
  have NP0 : Hid (blk pa ≠ some w.heap.size) := fun e => by have h1 := (hpr _ e).1; omega
  have NT0 : Hid (blk ta ≠ some w.heap.size) := fun e => by have h1 := (htf _ e).1; omega
  have keep : Hid (∀ {u v : World}, w.heap.size < u.heap.size → u.grownBy v (some R) → BoxS u w.heap.size (.string ⟨#[]⟩) (.int .i64 0) (.slice none 0 0) (.slice none 0 0) → BoxS v w.heap.size (.string ⟨#[]⟩) (.int .i64 0) (.slice none 0 0) (.slice none 0 0)) := fun hu hg h =>
    ⟨⟨(hg.cell_far ⟨w.heap.size, 0, none⟩ hu (by simp; omega)).trans h.1.1, (hg.cell_far ⟨w.heap.size, 1, none⟩ hu (by simp; omega)).trans h.1.2.1, (hg.cell_far ⟨w.heap.size, 2, none⟩ hu (by simp; omega)).trans h.1.2.2.1, (hg.cell_far ⟨w.heap.size, 3, none⟩ hu (by simp; omega)).trans h.1.2.2.2⟩, fun o => (hg.frozen_far ⟨w.heap.size, o, none⟩ hu (by simp; omega)).trans (h.2 o)⟩
  have R2 := Lib.hid (keep.out z1 hg RB.out)
  have z2 : w.heap.size < w2.heap.size := R2.out.1.lt
  have zR := D1.out.lt
  have zr2 : w1.heap.size ≤ w2.heap.size := hg.size
  have D2 := Lib.hid hr
  have P2 := Lib.hid hpt
  have T2 := Lib.hid htt
  have B2 : Hid (Below w.heap.size w w2) := B1.out.grown hg B1.out.size (fun j e => by simp at e; omega)
  clear hpt htt hr hg hpr htr htf hne et RB D1 B1
  have z4 := R2.out.1.lt
  obtain ⟨w3, hu⟩ : ∃ u, u = w2.alloc (.cells #[.string id, .int .i64 k, .slice pa ps.length pc, .slice ta ts.length tc] 43) := ⟨_, rfl⟩
  have hn : Below w2.heap.size w2 w3 := by rw [hu]; exact (Below.refl _ _).alloc (Nat.le_refl _) _
  have C4 : Hid (Box4 w3 w2.heap.size (.string id) (.int .i64 k) (.slice pa ps.length pc) (.slice ta ts.length tc)) := by rw [hu]; exact Box4.new w2 _ _ _ _ _
  have D3 : Hid (Rd w3 R a m cap p') := by rw [hu]; exact D2.out.alloc _
  have R3 := Lib.hid (R2.out.later hn)
  have P3 := Lib.hid (P2.out.below hn)
  have T3 := Lib.hid (T2.out.below hn)
  have B3 : Hid (Below w.heap.size w w3) := B2.out.trans (hn.mono B2.out.size)
  have z3 : w.heap.size < w3.heap.size := R3.out.1.lt
  have z5 : w2.heap.size < w3.heap.size := C4.out.lt
  obtain ⟨c0, c1, c2, c3⟩ := C4.out
  clear hn D2 P2 T2 B2 R2
  go_upto_region 3 with (fail)
  rw [← hu]
  clear hu
  go_region_held3 (fun w' => w'.cell? ⟨w2.heap.size, 0, none⟩ = some (.string id) ∧ w'.cell? ⟨w2.heap.size, 1, none⟩ = some (.int .i64 k) ∧ w'.cell? ⟨w2.heap.size, 2, none⟩ = some (.slice pa ps.length pc) ∧ w'.cell? ⟨w2.heap.size, 3, none⟩ = some (.slice ta ts.length tc))
    (first
      | exact ⟨c0, c1, c2, c3⟩
      | (simp [go_sem, hdn]; done)
      | exact hdn)
    (first
      | (go_at_call 64
         refine (l2Key_any R a m cap p' _ ?_ (by omega) hm).mono ?_
         · (first | exact D3.out | exact D3.out.drew)
         rintro e wn ⟨key, rfl, hkey, hr, hg⟩
         have hg' : w3.grownBy wn (some R) := ⟨hg.os, hg.tape, hg.output, hg.size, hg.block⟩
         have hdn : wn.cell? ⟨w2.heap.size, 0, none⟩ = some (.string id) ∧ wn.cell? ⟨w2.heap.size, 1, none⟩ = some (.int .i64 k) ∧ wn.cell? ⟨w2.heap.size, 2, none⟩ = some (.slice pa ps.length pc) ∧ wn.cell? ⟨w2.heap.size, 3, none⟩ = some (.slice ta ts.length tc) := ⟨(hg'.cell_far ⟨w2.heap.size, 0, none⟩ z5 (by simp; omega)).trans c0, (hg'.cell_far ⟨w2.heap.size, 1, none⟩ z5 (by simp; omega)).trans c1, (hg'.cell_far ⟨w2.heap.size, 2, none⟩ z5 (by simp; omega)).trans c2, (hg'.cell_far ⟨w2.heap.size, 3, none⟩ z5 (by simp; omega)).trans c3⟩
         obtain ⟨⟨r0, r1, r2, r3⟩, rs⟩ := keep.out z3 hg' R3.out
         have s0 := rs 0
         have s1 := rs 1
         have s2 := rs 2
         have s3 := rs 3))
  all_goals
    have P4 : Hid (PtsAt wn pa ps) := P3.out.grown hg' (.inr NP.out)
    have T4 : Hid (TagsAt wn ta ts) := T3.out.grown hg' (.inr NT.out)
    have B4 : Hid (Below w.heap.size w wn) := B3.out.grown hg' B3.out.size (fun j e => by simp at e; omega)
    clear hr hg hg' c0 c1 c2 c3 hdn rs
    go_wp2
    refine bodyPost_ret (v := .tuple #[.agg #[.string id, .int .i64 k, .slice pa ps.length pc, .slice ta ts.length tc], .string key]) (by simp [results, Try.results46, go_sem, r0, r1, r2, r3]) rfl ?_
    exact ⟨id, k, pa, pc, ps, ta, tc, ts, key, rfl, (((P4.out.set NP0.out).set NP0.out).set NP0.out).set NP0.out, (((T4.out.set NT0.out).set NT0.out).set NT0.out).set NT0.out, hid, hpl, htl, hts, hkey, NP1.out, NT1.out, (((B4.out.setCell (Nat.le_refl _) _).setCell (Nat.le_refl _) _).setCell (Nat.le_refl _) _).setCell (Nat.le_refl _) _⟩

set_option maxRecDepth 100000 in
set_option maxHeartbeats 2000000 in
theorem drawFeatCut_any (a : Option Addr) (n cap : Nat) (w : World) (h : CodeAt w a n) (hl : n ≤ 1048576) (hc : n ≤ cap) :
    Calls Try.prog 24 #[.slice a n cap] w (FGetDrawn w) := by
  have HC := Lib.hid h
  clear h
  have A0 : Hid (∀ o, Below w.heap.size w (w.alloc o)) := fun o => (Below.refl _ _).alloc (Nat.le_refl _) _
  go_enter Try.func24, Try.ntmps24
  go_wp2_with fail
  refine (drawFeatGet_any _ _ _ _ (HC.out.below (A0.out _)) hl hc).mono ?_
  rintro e w1 ⟨id, k, pa, pc, ps, ta, tc, ts, key, rfl, hP, hT, i1, i2, i3, i4, i5, i6, i7, hb1⟩
  simp only [World.size_alloc] at i6 i7
  have NP0 : Hid (blk pa ≠ some w.heap.size) := fun e => by have h1 := i6 _ e; omega
  have NT0 : Hid (blk ta ≠ some w.heap.size) := fun e => by have h1 := i7 _ e; omega
  have NP1 : Hid (∀ x, blk pa = some x → w.heap.size ≤ x) := fun x e => by have h1 := i6 _ e; omega
  have NT1 : Hid (∀ x, blk ta = some x → w.heap.size ≤ x) := fun x e => by have h1 := i7 _ e; omega
  have RB : Hid (BoxS w1 w.heap.size (.string ⟨#[]⟩) (.int .i64 0) (.slice none 0 0) (.slice none 0 0)) := (BoxS.new w _ _ _ _ _).later hb1
  have B1 : Hid (Below w.heap.size w w1) := (A0.out _).trans (hb1.mono (by simp))
  have P := Lib.hid hP
  have T := Lib.hid hT
  have z1 : w.heap.size < w1.heap.size := RB.out.1.lt
  have I4 := Lib.hid i4
  clear hP hT hb1 A0 i4 i6 i7
  obtain ⟨⟨r0, r1, r2, r3⟩, rs⟩ := RB.out
  have s0 := rs 0
  have s1 := rs 1
  have s2 := rs 2
  have s3 := rs 3
  clear rs
  go_wp2
  refine bodyPost_ret (v := .tuple #[.agg #[.string id, .int .i64 k, .slice pa ps.length pc, .slice ta ts.length tc], .string key]) (by simp [results, Try.results24, go_sem, r0, r1, r2, r3]) rfl ?_
  exact ⟨id, k, pa, pc, ps, ta, tc, ts, key, rfl, (((P.out.set NP0.out).set NP0.out).set NP0.out).set NP0.out, (((T.out.set NT0.out).set NT0.out).set NT0.out).set NT0.out, i1, i2, i3, I4.out, i5, NP1.out, NT1.out, (((B1.out.setCell (Nat.le_refl _) _).setCell (Nat.le_refl _) _).setCell (Nat.le_refl _) _).setCell (Nat.le_refl _) _⟩
end Go.Proofs.Ytdfadpejddhbkaa
