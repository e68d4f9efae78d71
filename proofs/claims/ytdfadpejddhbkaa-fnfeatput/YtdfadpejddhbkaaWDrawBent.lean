/- Proved here: the draw of a shape, bent or not, is a shape that can be read, in memory of its own, and turns nothing but the reader's place; codes of at most 2,000 bytes. -/
import Derived.Test.YtdfadpejddhbkaaWDrawShape
namespace Go.Proofs.Ytdfadpejddhbkaa
set_option linter.unusedVariables false
open Go.ChangeShapes Go.WideShapes Go.ChangeAt Go.RowKit

/-- what drawing a bent shape leaves -/
def BentDrawn (w : World) (R : Nat) (a : Option Addr) (len cap : Nat) (p : Int) (e : Ending) (w' : World) : Prop :=
  ∃ (k : Int) (g c2 : Nat) (ps : List (Int × Int)) (p' : Int), e = .returned (.agg #[.int .i64 k, .slice (some ⟨g, 0, none⟩) ps.length c2]) ∧ PtsAt w' (some ⟨g, 0, none⟩) ps ∧ Soft w' (some ⟨g, 0, none⟩) ps.length ∧ (w.heap.size ≤ g ∧ g < w'.heap.size) ∧ ps.length ≤ 7 ∧ Rd w' R a len cap p' ∧ p' ≤ p + 50 ∧ w.grownBy w' (some R)

theorem bent_close {w wz : World} {R g c2 : Nat} {a : Option Addr} {len cap : Nat} {p p' k : Int} {ps : List (Int × Int)} {x0 x1 : Value} (hp : PtsAt wz (some ⟨g, 0, none⟩) ps) (hs : Soft wz (some ⟨g, 0, none⟩) ps.length) (hg : w.heap.size < g) (hg2 : g < wz.heap.size) (hl : ps.length ≤ 7) (hr : Rd wz R a len cap p') (hp' : p' ≤ p + 50) (hG : w.grownBy wz (some R)) (hR : R ≠ w.heap.size) (hcode : ∀ i, i < len → ∀ x, blk a = some x → x < w.heap.size) :
    BentDrawn w R a len cap p (.returned (.agg #[.int .i64 k, .slice (some ⟨g, 0, none⟩) ps.length c2])) ((wz.setCell ⟨w.heap.size, 0, none⟩ x0).setCell ⟨w.heap.size, 1, none⟩ x1) := by
  have hne : blk (some ⟨g, 0, none⟩) ≠ some w.heap.size := by simp [blk]; omega
  refine ⟨k, g, c2, ps, p', rfl, (hp.set hne).set hne, (hs.set _ _).set _ _, ⟨by omega, by simpa [World.setCell] using hg2⟩, hl, ?_, hp', grown_set_new (grown_set_new hG (Nat.le_refl _)) (Nat.le_refl _)⟩
  exact hr.kept (r := some w.heap.size) (grown_set (grown_set (World.grownBy.refl _ _) _ _) _ _) (by simpa using hR.symm) (fun i hi e => by have := hcode i hi _ e; omega)

theorem PtsAt.take {w : World} {a : Option Addr} {ps : List (Int × Int)} (h : PtsAt w a ps) (m : Nat) : PtsAt w a (ps.take m) := by
  intro i hi
  have hi' : i < m ∧ i < ps.length := by rw [List.length_take] at hi; omega
  obtain ⟨b, off, e, hlt, h1, h2⟩ := h i hi'.2
  have e1 : px (ps.take m) i = px ps i := by simp [px, hi'.1]
  have e2 : py (ps.take m) i = py ps i := by simp [py, hi'.1]
  rw [e1, e2]
  exact ⟨b, off, e, hlt, h1, h2⟩

theorem Soft.less {w : World} {a : Option Addr} {n m : Nat} (h : Soft w a n) (hm : m ≤ n) : Soft w a m := fun i hi => h i (by omega)

/-- one place of a row is written -/
theorem PtsAt.put {w : World} {g : Nat} {ps : List (Int × Int)} (h : PtsAt w (some ⟨g, 0, none⟩) ps) {m : Nat} (hm : m < ps.length) (x : Int) : PtsAt (w.setCell ⟨g, m * 2, none⟩ (.int .i64 x)) (some ⟨g, 0, none⟩) (ps.set m (x, py ps m)) := by
  intro i hi
  have hi' : i < ps.length := by simpa using hi
  obtain ⟨b, off, e, hlt, h1, h2⟩ := h i hi'
  obtain ⟨rfl, rfl⟩ : g = b ∧ 0 = off := by simpa using e
  simp only [Nat.zero_add] at h1 h2
  have far : ∀ (o o' : Nat) (v : Value), o ≠ o' → (w.setCell ⟨g, o, none⟩ v).cell? ⟨g, o', none⟩ = w.cell? ⟨g, o', none⟩ := fun o o' v hne => World.cell?_setCell_other w ⟨g, o, none⟩ ⟨g, o', none⟩ v (fun h => hne (congrArg Addr.off h))
  refine ⟨g, 0, rfl, by simpa [World.setCell] using hlt, ?_, ?_⟩
  · rw [Nat.zero_add]
    by_cases em : i = m
    · subst em
      have : px (ps.set i (x, py ps i)) i = x := by simp [px, hi']
      rw [this]
      exact World.cell?_setCell_same _ _ _ h1
    · have : px (ps.set m (x, py ps m)) i = px ps i := by simp [px, List.getElem?_set_ne (Ne.symm em)]
      rw [this, far _ _ _ (by omega)]
      exact h1
  · rw [Nat.zero_add]
    have : py (ps.set m (x, py ps m)) i = py ps i := by
      by_cases em : i = m
      · subst em; simp [py, hi']
      · simp [py, List.getElem?_set_ne (Ne.symm em)]
    rw [this, far _ _ _ (by omega)]
    exact h2

set_option maxRecDepth 100000 in
set_option maxHeartbeats 4000000 in
theorem l1Bent_any (R : Nat) (a : Option Addr) (len cap : Nat) (p : Int) (w : World) (h : Rd w R a len cap p) (hp : p ≤ 70000) (hl : len ≤ 2000) :
    Calls Try.prog 34 #[.pointer (some ⟨R, 0, none⟩)] w (BentDrawn w R a len cap p) := by
  have HR := Lib.hid h
  have hRlt := h.lt
  have hcode : Hid (∀ i, i < len → ∀ x, blk a = some x → x < w.heap.size) := fun i hi x hx => by
    obtain ⟨b, off, c, e, hlt, _⟩ := h.bytes i hi
    rw [e] at hx
    obtain rfl : b = x := by simpa [blk] using hx
    exact hlt
  clear h
  obtain ⟨i0, hi, hz0, hz1, hz2⟩ := info_parts infoPt
  have HI := Lib.hid hi
  have HZ0 := Lib.hid hz0
  have HZ1 := Lib.hid hz1
  have HZ2 := Lib.hid hz2
  clear hi hz0 hz1 hz2
  have hneR : some w.heap.size ≠ some R := by simp; omega
  have hRne : R ≠ w.heap.size := by omega
  go_enter Try.func34, Try.ntmps34
  go_wp2_with fail
  refine (l1Shape_any _ _ _ _ _ _ (HR.out.alloc _) (by omega) hl).mono ?_
  rintro e w1 ⟨k, g, c2, ps, p1, rfl, hown, ⟨hn0, hn6⟩, ⟨hc1, hc2⟩, hr, hp1, hg⟩
  have hgl := (hown.lt g rfl).1
  have hgu := (hown.lt g rfl).2
  simp only [World.size_alloc] at hgl
  have t0 : w1.cell? ⟨w.heap.size, 0, none⟩ = some (.int .i64 0) := (hg.cell_far _ (by simp) hneR).trans (by simp [go_sem])
  have t1 : w1.cell? ⟨w.heap.size, 1, none⟩ = some (.slice none 0 0) := (hg.cell_far _ (by simp) hneR).trans (by simp [go_sem])
  have t2 : w1.frozen? ⟨w.heap.size, 0, none⟩ = false := (hg.frozen_far _ (by simp) hneR).trans (by simp [go_sem])
  have t3 : w1.frozen? ⟨w.heap.size, 1, none⟩ = false := (hg.frozen_far _ (by simp) hneR).trans (by simp [go_sem])
  have G1 : Hid (w.grownBy w1 (some R)) := (World.grownBy_alloc w _ _).trans hg
  have z0 : w.heap.size < w1.heap.size := World.block_lt_of_cell? _ _ t0
  have hRs : R ≠ w1.heap.size := by omega
  have OWN1 := Lib.hid (owns_base (hown.alloc (.cells #[.int .i64 k, .slice (some ⟨g, 0, none⟩) ps.length c2] 25)) (base' := 0) (Nat.zero_le _))
  have HR1 := Lib.hid (hr.alloc (.cells #[.int .i64 k, .slice (some ⟨g, 0, none⟩) ps.length c2] 25))
  have ba : Below w1.heap.size w1 (w1.alloc (.cells #[.int .i64 k, .slice (some ⟨g, 0, none⟩) ps.length c2] 25)) := (Below.refl _ _).alloc (Nat.le_refl _) _
  replace t0 := cell_later ba t0
  replace t1 := cell_later ba t1
  replace t2 := (ba.frozen (p := ⟨w.heap.size, 0, none⟩) z0).trans t2
  replace t3 := (ba.frozen (p := ⟨w.heap.size, 1, none⟩) z0).trans t3
  obtain ⟨d0, d1, d2, d3⟩ := cell_two w1 (.int .i64 k) (.slice (some ⟨g, 0, none⟩) ps.length c2) 25
  have G2 : Hid (w.grownBy (w1.alloc (.cells #[.int .i64 k, .slice (some ⟨g, 0, none⟩) ps.length c2] 25)) (some R)) := grown_alloc G1.out _
  have HC1 := Lib.hid hc1
  have HC2 := Lib.hid hc2
  clear hown hr hg ba hc1 hc2
  go_upto_region 2 with (fail)
  generalize (w1.alloc (.cells #[.int .i64 k, .slice (some ⟨g, 0, none⟩) ps.length c2] 25)) = W at *
  have y0 : w1.heap.size < W.heap.size := World.block_lt_of_cell? _ _ d0
  go_wp2_with fail
  refine (pick_any _ _ _ _ _ _ _ HR1.out (by omega) hl (by omega) (by omega)).mono ?_
  rintro e w2 ⟨m, rfl, hm0, hm1, hr, hg, hs⟩
  obtain ⟨M, rfl⟩ : ∃ M : Nat, m = (M : Int) := ⟨m.toNat, by omega⟩
  have keep2 : ∀ {x o : Nat} {u : Value}, x ≠ R → W.cell? ⟨x, o, none⟩ = some u → w2.cell? ⟨x, o, none⟩ = some u := fun hne h => (hg.cell_far _ (World.block_lt_of_cell? _ _ h) (by simpa using hne)).trans h
  have keepf2 : ∀ {x o : Nat}, x < W.heap.size → x ≠ R → W.frozen? ⟨x, o, none⟩ = false → w2.frozen? ⟨x, o, none⟩ = false := fun hlt hne h => (hg.frozen_far ⟨_, _, none⟩ hlt (by simpa using hne)).trans h
  replace t0 := keep2 hRne.symm t0
  replace t1 := keep2 hRne.symm t1
  replace t2 := keepf2 (by omega) hRne.symm t2
  replace t3 := keepf2 (by omega) hRne.symm t3
  replace d0 := keep2 hRs.symm d0
  replace d1 := keep2 hRs.symm d1
  replace d2 := keepf2 (by omega) hRs.symm d2
  replace d3 := keepf2 (by omega) hRs.symm d3
  have OWN2 := Lib.hid (World.ownsRow.kept OWN1.out hg (.inr (by simp [Value.ownBlock]; omega)))
  have HR2 := Lib.hid hr
  have G3 : Hid (w.grownBy w2 (some R)) := G2.out.trans hg
  have y1 : W.heap.size ≤ w2.heap.size := hg.size
  clear hr hg hs keep2 keepf2 OWN1 HR1 G2
  go_wp2_with fail
  refine (pick_any _ _ _ _ _ _ _ HR2.out (by omega) hl (by omega) (by omega)).mono ?_
  rintro e w3 ⟨q, rfl, hq0, hq1, hr, hg, hs⟩
  have keep2 : ∀ {x o : Nat} {u : Value}, x ≠ R → w2.cell? ⟨x, o, none⟩ = some u → w3.cell? ⟨x, o, none⟩ = some u := fun hne h => (hg.cell_far _ (World.block_lt_of_cell? _ _ h) (by simpa using hne)).trans h
  have keepf2 : ∀ {x o : Nat}, x < w2.heap.size → x ≠ R → w2.frozen? ⟨x, o, none⟩ = false → w3.frozen? ⟨x, o, none⟩ = false := fun hlt hne h => (hg.frozen_far ⟨_, _, none⟩ hlt (by simpa using hne)).trans h
  replace t0 := keep2 hRne.symm t0
  replace t1 := keep2 hRne.symm t1
  replace t2 := keepf2 (by omega) hRne.symm t2
  replace t3 := keepf2 (by omega) hRne.symm t3
  replace d0 := keep2 hRs.symm d0
  replace d1 := keep2 hRs.symm d1
  replace d2 := keepf2 (by omega) hRs.symm d2
  replace d3 := keepf2 (by omega) hRs.symm d3
  have OWN3 := Lib.hid (World.ownsRow.kept OWN2.out hg (.inr (by simp [Value.ownBlock]; omega)))
  have HR3 := Lib.hid hr
  have G4 : Hid (w.grownBy w3 (some R)) := G3.out.trans hg
  have y2 : w1.heap.size < w3.heap.size := World.block_lt_of_cell? _ _ d0
  have y3 : w.heap.size < w3.heap.size := World.block_lt_of_cell? _ _ t0
  have y4 : R < w3.heap.size := by omega
  clear hr hg hs keep2 keepf2 OWN2 HR2 G3 G1 y1 y0 W w2
  have x1 : ¬ w.heap.size = w1.heap.size := by omega
  have x2 : ¬ w1.heap.size = w.heap.size := by omega
  have PTS3 : Hid (PtsAt w3 (some ⟨g, 0, none⟩) ps ∧ Soft w3 (some ⟨g, 0, none⟩) ps.length) := by
    obtain ⟨a3, cap3, e3, h3, h4, h5⟩ := owned_pts OWN3.out rfl
    obtain ⟨rfl, rfl⟩ : some ⟨g, 0, none⟩ = a3 ∧ c2 = cap3 := by simpa using e3
    exact ⟨h3, h4⟩
  have hg3 : g < w3.heap.size := by omega
  have hgR : g ≠ R := by omega
  have hgS : g ≠ w1.heap.size := by omega
  have hbS : blk (some ⟨g, 0, none⟩) ≠ some w1.heap.size := by simp [blk]; omega
  by_cases q0 : q = 0
  · subst q0
    go_wp2_with fail
    refine (num_any _ _ 5 _ _ _ _ 0 4 _ (HR3.out.alloc _) (by omega) hl (fun i hi => ?_) (by omega) (by omega) (by omega)).mono ?_
    · have : i = 0 ∨ i = 1 ∨ i = 2 ∨ i = 3 ∨ i = 4 := by omega
      rcases this with rfl | rfl | rfl | rfl | rfl
      · exact ⟨0, by simp [go_sem], by omega, by omega⟩
      · exact ⟨4, by simp [go_sem], by omega, by omega⟩
      · exact ⟨1, by simp [go_sem], by omega, by omega⟩
      · exact ⟨2, by simp [go_sem], by omega, by omega⟩
      · exact ⟨3, by simp [go_sem], by omega, by omega⟩
    rintro e w4 ⟨x, rfl, hx0, hx1, hr, hg, hs⟩
    have hg' : w3.grownBy w4 (some R) := (World.grownBy_alloc w3 _ _).trans hg
    have keep2 : ∀ {x o : Nat} {u : Value}, x ≠ R → w3.cell? ⟨x, o, none⟩ = some u → w4.cell? ⟨x, o, none⟩ = some u := fun hne h => (hg'.cell_far _ (World.block_lt_of_cell? _ _ h) (by simpa using hne)).trans h
    have keepf2 : ∀ {x o : Nat}, x < w3.heap.size → x ≠ R → w3.frozen? ⟨x, o, none⟩ = false → w4.frozen? ⟨x, o, none⟩ = false := fun hlt hne h => (hg'.frozen_far ⟨_, _, none⟩ hlt (by simpa using hne)).trans h
    replace t0 := keep2 hRne.symm t0
    replace t1 := keep2 hRne.symm t1
    replace t2 := keepf2 y3 hRne.symm t2
    replace t3 := keepf2 y3 hRne.symm t3
    replace d0 := keep2 hRs.symm d0
    replace d1 := keep2 hRs.symm d1
    replace d2 := keepf2 y2 hRs.symm d2
    have PTS4 : Hid (PtsAt w4 (some ⟨g, 0, none⟩) ps) := PTS3.out.1.grown hg' (.inr (by simp [blk]; omega))
    have SOFT4 : Hid (Soft w4 (some ⟨g, 0, none⟩) ps.length) := fun i hi b off e => by
      obtain ⟨rfl, rfl⟩ : g = b ∧ 0 = off := by simpa using e
      have := PTS3.out.2 i hi g 0 rfl
      exact ⟨keepf2 hg3 hgR this.1, keepf2 hg3 hgR this.2⟩
    have HR4 := Lib.hid hr
    have G5 : Hid (w.grownBy w4 (some R)) := G4.out.trans hg'
    have y5 : g < w4.heap.size := Nat.lt_of_lt_of_le hg3 hg'.size
    clear hr hg hg' hs keep2 keepf2
    go_wp2
    refine bodyPost_ret (v := .agg #[.int .i64 x, .slice (some ⟨g, 0, none⟩) ps.length c2]) (by simp [results, Try.results34, go_sem, t0, t1]) rfl ?_
    refine bent_close (p' := p1 + 1 + 1 + 1) (PTS4.out.set hbS) (SOFT4.out.set _ _) (by omega) (by simpa [World.setCell] using y5) (by omega) ?_ (by omega) (grown_set_new (c := w1.heap.size) G5.out (by omega)) hRne hcode.out
    exact HR4.out.kept (r := some w1.heap.size) (grown_set (World.grownBy.refl _ _) _ _) (by simp; omega) (fun i hi e => by have := hcode.out i hi _ e; omega)
  · have b0 : (q == 0) = false := beq_eq_false_iff_ne.2 q0
    by_cases q1 : q = 1
    · subst q1
      clear q0 b0
      have hMl : (M : Int) < (ps.length : Int) := by omega
      obtain ⟨b, off, e, _, r1, r2⟩ := PTS3.out.1 M (by omega)
      obtain ⟨rfl, rfl⟩ : g = b ∧ 0 = off := by simpa using e
      obtain ⟨s1, s2⟩ := PTS3.out.2 M (by omega) g 0 rfl
      simp only [Nat.zero_add] at r1 s1
      clear e r2 s2
      go_upto_region 7 with (fail)
      go_region_held3 (fun w' => w'.cell? ⟨w1.heap.size, 1, none⟩ = some (.slice (some ⟨g, 0, none⟩) ps.length c2))
        (first
          | exact d1
          | (simp [go_sem, d1, y2]; done)
          | exact (hg'.cell_far ⟨w1.heap.size, 1, none⟩ y2 (by simp; omega)).trans d1
          | (simp [go_sem, hdn]; done))
        (first
          | (go_at_call 41
             refine (num_any R w3.heap.size 3 a len cap (p1 + 1 + 1) (-1001) 1001 _ ?_ (by omega) hl ?_ (by omega) (by omega) (by omega)).mono ?_
             · (exact (HR3.out.alloc _).drew)
             · (intro i hi
                have : i = 0 ∨ i = 1 ∨ i = 2 := by omega
                rcases this with rfl | rfl | rfl
                · exact ⟨1000, by simp [go_sem], by omega, by omega⟩
                · exact ⟨1001, by simp [go_sem], by omega, by omega⟩
                · exact ⟨-1001, by simp [go_sem], by omega, by omega⟩)
             rintro e wn ⟨x, rfl, hx0, hx1, hr, hg, hs⟩
             have hg' : w3.grownBy wn (some R) := (World.grownBy_alloc w3 (.cells #[.int .i64 1000, .int .i64 1001, .int .i64 (-1001)] 3) (some R)).trans ⟨hg.os, hg.tape, hg.output, hg.size, hg.block⟩
             have u1 : wn.cell? ⟨g, M * 2, none⟩ = some (.int .i64 (px ps M)) := (hg'.cell_far ⟨g, M * 2, none⟩ hg3 (by simp; omega)).trans r1
             have u2 : wn.frozen? ⟨g, M * 2, none⟩ = false := (hg'.frozen_far ⟨g, M * 2, none⟩ hg3 (by simp; omega)).trans s1
             have hdn : wn.cell? ⟨w1.heap.size, 1, none⟩ = some (.slice (some ⟨g, 0, none⟩) ps.length c2) := (hg'.cell_far ⟨w1.heap.size, 1, none⟩ y2 (by simp; omega)).trans d1))
      all_goals
        have k0 : wn.cell? ⟨w1.heap.size, 0, none⟩ = some (.int .i64 k) := (hg'.cell_far ⟨w1.heap.size, 0, none⟩ y2 (by simp; omega)).trans d0
        have l0 : wn.cell? ⟨w.heap.size, 0, none⟩ = some (.int .i64 0) := (hg'.cell_far ⟨w.heap.size, 0, none⟩ y3 hneR).trans t0
        have l1 : wn.cell? ⟨w.heap.size, 1, none⟩ = some (.slice none 0 0) := (hg'.cell_far ⟨w.heap.size, 1, none⟩ y3 hneR).trans t1
        have l2 : wn.frozen? ⟨w.heap.size, 0, none⟩ = false := (hg'.frozen_far ⟨w.heap.size, 0, none⟩ y3 hneR).trans t2
        have l3 : wn.frozen? ⟨w.heap.size, 1, none⟩ = false := (hg'.frozen_far ⟨w.heap.size, 1, none⟩ y3 hneR).trans t3
        have PTS4 : Hid (PtsAt wn (some ⟨g, 0, none⟩) ps) := PTS3.out.1.grown hg' (.inr (by simp [blk]; omega))
        have SOFT4 : Hid (Soft wn (some ⟨g, 0, none⟩) ps.length) := fun i hi b off e => by
          obtain ⟨rfl, rfl⟩ : g = b ∧ 0 = off := by simpa using e
          have := PTS3.out.2 i hi g 0 rfl
          exact ⟨(hg'.frozen_far ⟨g, _, none⟩ hg3 (by simp; omega)).trans this.1, (hg'.frozen_far ⟨g, _, none⟩ hg3 (by simp; omega)).trans this.2⟩
        have HR4 := Lib.hid hr
        have G5 : Hid (w.grownBy wn (some R)) := G4.out.trans hg'
        have y5 : g < wn.heap.size := Nat.lt_of_lt_of_le hg3 hg'.size
        have n1 : ¬ g = w.heap.size := by omega
        have n2 : ¬ w.heap.size = g := by omega
        have n3 : ¬ g = w1.heap.size := by omega
        have n4 : ¬ w1.heap.size = g := by omega
        clear hr hg hg' hs t0 t1 t2 t3 d0 d1 d2 d3
        go_wp2
        refine bodyPost_ret (v := .agg #[.int .i64 k, .slice (some ⟨g, 0, none⟩) ps.length c2]) (by simp [results, Try.results34, go_sem, l0, l1]) rfl ?_
        have hfin := bent_close (c2 := c2) (k := k) (x0 := .int .i64 k) (x1 := .slice (some ⟨g, 0, none⟩) ps.length c2) (PTS4.out.put (m := M) (by omega) x) (by simpa using SOFT4.out.set ⟨g, M * 2, none⟩ (.int .i64 x)) (by omega) (by simpa [World.setCell] using y5) (by simp; omega) (HR4.out.kept (r := some g) (grown_set (World.grownBy.refl _ _) _ _) (by simp; omega) (fun i hi e => by have := hcode.out i hi _ e; omega)) (show p1 + 1 + 1 + 1 ≤ p + 50 by omega) (grown_set_new (c := g) G5.out (by omega)) hRne hcode.out
        simpa using hfin
    · have b1 : (q == 1) = false := beq_eq_false_iff_ne.2 q1
      by_cases q2 : q = 2
      · subst q2
        clear q0 q1
        obtain ⟨L, hL⟩ : ∃ L, ps.length = L + 1 := ⟨ps.length - 1, by omega⟩
        obtain ⟨b, off, e, _, r1, r2⟩ := PTS3.out.1 L (by omega)
        obtain ⟨rfl, rfl⟩ : g = b ∧ 0 = off := by simpa using e
        simp only [Nat.zero_add] at r1 r2
        have j1 : IntKind.i64.wrap ((ps.length : Int) - 1) = (L : Int) := by rw [IntWalk.i64_in _ (by omega)]; omega
        have j2 : (L : Int) < (ps.length : Int) := by omega
        have HL := Lib.hid hL
        clear e hL
        have n1 : ¬ g = w.heap.size := by omega
        have n2 : ¬ w.heap.size = g := by omega
        have hOb : (Value.slice (some ⟨g, 0, none⟩) ps.length c2).ownBlock = some g := rfl
        go_upto_region 9 with (fail)
        go_region_law (refine step_append_lies _ (by rfl) _ _ _ (by rfl) 0 32 i0 _ 2 16 Try.underlying23 HI.out HZ0.out HZ1.out HZ2.out rfl (by omega) (.slice (some ⟨g, 0, none⟩) ps.length c2) ps.length (flat ps) (by rfl) ((OWN3.out.alloc _).drew) ⟨w3.heap.size, 0, none⟩ 1 1 [.int .i64 (px ps L), .int .i64 (py ps L)] (by rfl) (by rfl) (World.news_of_block (cs := #[.int .i64 (px ps L), .int .i64 (py ps L)]) (t := 32) (fr := (0, 0)) (heap_alloc_new w3 _)) (by simp [Value.oneCell']) (by omega) (by unfold maxLen; omega) (by omega) (by simp) (w3.heap.size + 1) (by simp) ?_; intro gg cap' wa hown1 hgrow hat hlt'; rw [hOb] at hgrow hat; have hg' : w3.grownBy wa (some g) := (World.grownBy_alloc w3 (.cells #[.int .i64 (px ps L), .int .i64 (py ps L)] 32) (some g)).trans ⟨hgrow.os, hgrow.tape, hgrow.output, hgrow.size, hgrow.block⟩; have k0 := (hg'.cell_far ⟨w1.heap.size, 0, none⟩ y2 (by simp; omega)).trans d0; have k1 := (hg'.cell_far ⟨w1.heap.size, 1, none⟩ y2 (by simp; omega)).trans d1; have k2 := (hg'.frozen_far ⟨w1.heap.size, 1, none⟩ y2 (by simp; omega)).trans d3)
        all_goals
          have l0 : wa.cell? ⟨w.heap.size, 0, none⟩ = some (.int .i64 0) := (hg'.cell_far ⟨w.heap.size, 0, none⟩ y3 (by simp; omega)).trans t0
          have l1 : wa.cell? ⟨w.heap.size, 1, none⟩ = some (.slice none 0 0) := (hg'.cell_far ⟨w.heap.size, 1, none⟩ y3 (by simp; omega)).trans t1
          have l2 : wa.frozen? ⟨w.heap.size, 0, none⟩ = false := (hg'.frozen_far ⟨w.heap.size, 0, none⟩ y3 (by simp; omega)).trans t2
          have l3 : wa.frozen? ⟨w.heap.size, 1, none⟩ = false := (hg'.frozen_far ⟨w.heap.size, 1, none⟩ y3 (by simp; omega)).trans t3
          have HOW : Hid (wa.ownsRow 0 32 2 (.slice (some ⟨gg, 0, none⟩) (ps.length + 1) cap') (ps.length + 1) (flat (ps ++ [(px ps L, py ps L)]))) := by rw [flat_snoc]; exact hown1
          have HR4 : Hid (Rd wa R a len cap (p1 + 1 + 1)) := HR3.out.kept hg' (by simp; omega) (fun i hi e => by have := hcode.out i hi _ e; omega)
          have G5 : Hid (w.grownBy wa (some R)) := G4.out.andThen hg' (fun j e => .inl (by simp at e; omega))
          have hgg : w.heap.size < gg := by rcases hat with h | h; (simp at h; omega); omega
          have hggS : gg ≠ w1.heap.size := by rcases hat with h | h; (simp at h; omega); omega
          have x5 : (w1.heap.size : Nat) < wa.heap.size := World.block_lt_of_cell? _ _ k0
          clear hown1 hgrow hat hg' t0 t1 t2 t3 d0 d1 d2 d3 hOb
          go_wp2
          refine bodyPost_ret (v := .agg #[.int .i64 k, .slice (some ⟨gg, 0, none⟩) (ps.length + 1) cap']) (by simp [results, Try.results34, go_sem, l0, l1]) rfl ?_
          obtain ⟨a3, cap3, e3, h3, h4, h5⟩ := owned_pts HOW.out (by simp)
          have hlen : (ps ++ [(px ps L, py ps L)]).length = ps.length + 1 := by simp
          rw [hlen] at e3
          obtain ⟨rfl, rfl⟩ : some ⟨gg, 0, none⟩ = a3 ∧ cap' = cap3 := by simpa using e3
          have hbS2 : blk (some ⟨gg, 0, none⟩) ≠ some w1.heap.size := by simpa [blk] using hggS
          have hfin := bent_close (c2 := cap') (k := k) (x0 := .int .i64 k) (x1 := .slice (some ⟨gg, 0, none⟩) (ps.length + 1) cap') (h3.set (c := w1.heap.size) (o := 1) (v := .slice (some ⟨gg, 0, none⟩) (ps.length + 1) cap') hbS2) (h4.set _ _) hgg (by simpa [World.setCell] using hlt') (by rw [hlen]; omega) (HR4.out.kept (r := some w1.heap.size) (grown_set (World.grownBy.refl _ _) _ _) (by simp; omega) (fun i hi e => by have := hcode.out i hi _ e; omega)) (show p1 + 1 + 1 ≤ p + 50 by omega) (grown_set_new (c := w1.heap.size) G5.out (by omega)) hRne hcode.out
          rw [hlen] at hfin
          exact hfin
      · have b2 : (q == 2) = false := beq_eq_false_iff_ne.2 q2
        by_cases q3 : q = 3
        · subst q3
          clear q0 q1 q2
          have hMc : M ≤ c2 := by have := HC1.out; omega
          have hMc' : (M : Int) ≤ (c2 : Int) := by omega
          go_wp2
          refine bodyPost_ret (v := .agg #[.int .i64 k, .slice (some ⟨g, 0, none⟩) M c2]) (by simp [results, Try.results34, go_sem, t0, t1]) rfl ?_
          have hlen : (ps.take M).length = M := by rw [List.length_take]; omega
          have hfin := bent_close (c2 := c2) (k := k) (x0 := .int .i64 k) (x1 := .slice (some ⟨g, 0, none⟩) M c2) ((PTS3.out.1.take M).set (c := w1.heap.size) (o := 1) (v := .slice (some ⟨g, 0, none⟩) M c2) hbS) ((PTS3.out.2.less (m := (ps.take M).length) (by omega)).set _ _) (by omega) (by simpa [World.setCell] using hg3) (by omega) (HR3.out.kept (r := some w1.heap.size) (grown_set (World.grownBy.refl _ _) _ _) (by simp; omega) (fun i hi e => by have := hcode.out i hi _ e; omega)) (show p1 + 1 + 1 ≤ p + 50 by omega) (grown_set_new (c := w1.heap.size) G4.out (by omega)) hRne hcode.out
          rw [hlen] at hfin
          exact hfin
        · have b3 : (q == 3) = false := beq_eq_false_iff_ne.2 q3
          clear q0 q1 q2 q3
          go_wp2
          refine bodyPost_ret (v := .agg #[.int .i64 k, .slice (some ⟨g, 0, none⟩) ps.length c2]) (by simp [results, Try.results34, go_sem, t0, t1]) rfl ?_
          exact bent_close PTS3.out.1 PTS3.out.2 (by omega) hg3 (by omega) HR3.out (by omega) G4.out hRne hcode.out
end Go.Proofs.Ytdfadpejddhbkaa
