/- Proved here: parts of ShapeMove: the copy of a shape; rows that are filled place by place; a row laid by appends. Rows of at most 1,048,576 points. -/
import Derived.Test.YtopbpokcffdjnaaWBackS
import Derived.Test.YtopbpokcffdjnaaWRev
import Derived.StillTailTactics
namespace Go.Proofs.Ytopbpokcffdjnaa
set_option linter.unusedVariables false
open Go.ChangeShapes Go.WideShapes Go.ChangeAt Go.RowKit Go.Deep

/-- a row by what stands at each place; nothing else has turned -/
def RowFill (w : World) (b off n : Nat) (f : Nat → Int × Int) (wr : World) : Prop :=
  (∀ i, i < n → wr.cell? ⟨b, off + i * 2, none⟩ = some (.int .i64 (f i).1) ∧ wr.cell? ⟨b, off + i * 2 + 1, none⟩ = some (.int .i64 (f i).2)) ∧ (∀ x, wr.frozen? x = w.frozen? x) ∧ w.grownBy wr (some b) ∧ wr.heap.size = w.heap.size

theorem RowFill.start {w : World} {b off : Nat} {ps : List (Int × Int)} (hp : PtsAt w (some ⟨b, off, none⟩) ps) : RowFill w b off ps.length (fun i => (px ps i, py ps i)) w := by
  refine ⟨fun i hi => ?_, fun _ => rfl, World.grownBy.refl _ _, rfl⟩
  obtain ⟨b', off', e, _, h1, h2⟩ := hp i hi
  obtain ⟨rfl, rfl⟩ : b = b' ∧ off = off' := by simpa using e
  exact ⟨h1, h2⟩

theorem RowFill.congr {w wr : World} {b off n : Nat} {f g : Nat → Int × Int} (h : RowFill w b off n f wr) (e : ∀ i, i < n → f i = g i) : RowFill w b off n g wr :=
  ⟨fun i hi => by rw [← e i hi]; exact h.1 i hi, h.2⟩

theorem RowFill.drew {w wr : World} {b off n : Nat} {f : Nat → Int × Int} (h : RowFill w b off n f wr) : RowFill w b off n f wr.drew := ⟨h.1, h.2.1, grown_drew h.2.2.1, h.2.2.2⟩

theorem RowFill.set {w wr : World} {b off n j : Nat} {f : Nat → Int × Int} (h : RowFill w b off n f wr) (hj : j < n) (x y : Int) :
    RowFill w b off n (fun i => if i = j then (x, y) else f i) ((wr.setCell ⟨b, off + j * 2, none⟩ (.int .i64 x)).setCell ⟨b, off + j * 2 + 1, none⟩ (.int .i64 y)) := by
  obtain ⟨hc, hf, hg, hs⟩ := h
  have far : ∀ (W : World) (o o' : Nat) (v : Value), o ≠ o' → (W.setCell ⟨b, o, none⟩ v).cell? ⟨b, o', none⟩ = W.cell? ⟨b, o', none⟩ := fun W o o' v hne => World.cell?_setCell_other W ⟨b, o, none⟩ ⟨b, o', none⟩ v (fun h => hne (congrArg Addr.off h))
  refine ⟨fun i hi => ?_, fun x => by rw [World.frozen?_setCell, World.frozen?_setCell, hf], grown_set (grown_set hg _ _) _ _, by simp [World.setCell, hs]⟩
  obtain ⟨h1, h2⟩ := hc i hi
  by_cases e : i = j
  · subst e
    simp only [if_true]
    refine ⟨?_, ?_⟩
    · rw [far _ _ _ _ (by omega)]
      exact World.cell?_setCell_same _ _ _ h1
    · exact World.cell?_setCell_same _ _ _ ((far _ _ _ _ (by omega)).trans h2)
  · simp only [if_neg e]
    refine ⟨?_, ?_⟩
    · rw [far _ _ _ _ (by omega), far _ _ _ _ (by omega)]
      exact h1
    · rw [far _ _ _ _ (by omega), far _ _ _ _ (by omega)]
      exact h2

theorem RowFill.pts {w wr : World} {b off : Nat} {f : Nat → Int × Int} {ps : List (Int × Int)} (h : RowFill w b off ps.length f wr) (hb : b < w.heap.size) (e : ∀ i, i < ps.length → f i = (px ps i, py ps i)) : PtsAt wr (some ⟨b, off, none⟩) ps := by
  intro i hi
  obtain ⟨h1, h2⟩ := h.1 i hi
  rw [e i hi] at h1 h2
  exact ⟨b, off, rfl, by rw [h.2.2.2]; exact hb, h1, h2⟩

theorem RowFill.soft {w wr : World} {b off n : Nat} {f : Nat → Int × Int} (h : RowFill w b off n f wr) (hs : Soft w (some ⟨b, off, none⟩) n) : Soft wr (some ⟨b, off, none⟩) n := by
  intro i hi b' off' e
  rw [h.2.1, h.2.1]
  exact hs i hi b' off' e

theorem made_far {W wa : World} {O : Obj} {v : Value} (hg : ((W.alloc O).drew).grownBy wa v.ownBlock) (hv : v.ownBlock = some W.heap.size) : Below W.heap.size W wa := by
  rw [hv] at hg
  have h1 : (W.alloc O).grownBy wa (some W.heap.size) := ⟨hg.os, hg.tape, hg.output, hg.size, hg.block⟩
  exact ((Below.refl _ _).alloc (Nat.le_refl _) _).grown h1 (by simp) (fun j e => by simp at e; omega)

set_option maxHeartbeats 2000000 in
theorem l1Copy_any (k : Int) (b off cap : Nat) (ps : List (Int × Int)) (w : World) (hp : PtsAt w (some ⟨b, off, none⟩) ps) (hl : ps.length ≤ 1048576) (h0 : 0 < ps.length) :
    Calls Try.prog 45 #[.agg #[.int .i64 k, .slice (some ⟨b, off, none⟩) ps.length cap]] w fun e w' => ∃ g cap2, e = .returned (.agg #[.int .i64 k, .slice (some ⟨g, 0, none⟩) ps.length cap2]) ∧ PtsAt w' (some ⟨g, 0, none⟩) ps ∧ Soft w' (some ⟨g, 0, none⟩) ps.length ∧ w.heap.size ≤ g ∧ g < w'.heap.size ∧ Below w.heap.size w w' := by
  have HP := Lib.hid hp
  clear hp
  obtain ⟨i0, hi, hz0, hz1, hz2⟩ := info_parts infoPt
  have HI := Lib.hid hi
  have HZ0 := Lib.hid hz0
  have HZ1 := Lib.hid hz1
  have HZ2 := Lib.hid hz2
  clear hi hz0 hz1 hz2
  go_enter Try.func45, Try.ntmps45
  go_wp2
  have q0 : ((w.alloc (.cells #[.int .i64 k, .slice (some ⟨b, off, none⟩) ps.length cap] 25)).alloc (.cells #[.int .i64 0, .slice none 0 0] 25)).cell? ⟨w.heap.size, 0, none⟩ = some (.int .i64 k) := by simp [go_sem]
  have q1 : ((w.alloc (.cells #[.int .i64 k, .slice (some ⟨b, off, none⟩) ps.length cap] 25)).alloc (.cells #[.int .i64 0, .slice none 0 0] 25)).cell? ⟨w.heap.size, 1, none⟩ = some (.slice (some ⟨b, off, none⟩) ps.length cap) := by simp [go_sem]
  have q2 : ((w.alloc (.cells #[.int .i64 k, .slice (some ⟨b, off, none⟩) ps.length cap] 25)).alloc (.cells #[.int .i64 0, .slice none 0 0] 25)).cell? ⟨w.heap.size + 1, 0, none⟩ = some (.int .i64 0) := by simp [go_sem]
  have q3 : ((w.alloc (.cells #[.int .i64 k, .slice (some ⟨b, off, none⟩) ps.length cap] 25)).alloc (.cells #[.int .i64 0, .slice none 0 0] 25)).cell? ⟨w.heap.size + 1, 1, none⟩ = some (.slice none 0 0) := by simp [go_sem]
  have q4 : ((w.alloc (.cells #[.int .i64 k, .slice (some ⟨b, off, none⟩) ps.length cap] 25)).alloc (.cells #[.int .i64 0, .slice none 0 0] 25)).frozen? ⟨w.heap.size + 1, 0, none⟩ = false := by simp [go_sem]
  have q5 : ((w.alloc (.cells #[.int .i64 k, .slice (some ⟨b, off, none⟩) ps.length cap] 25)).alloc (.cells #[.int .i64 0, .slice none 0 0] 25)).frozen? ⟨w.heap.size + 1, 1, none⟩ = false := by simp [go_sem]
  have B0 : Hid (Below w.heap.size w ((w.alloc (.cells #[.int .i64 k, .slice (some ⟨b, off, none⟩) ps.length cap] 25)).alloc (.cells #[.int .i64 0, .slice none 0 0] 25))) := ((Below.refl _ _).alloc (Nat.le_refl _) _).alloc (by simp) _
  generalize ((w.alloc (.cells #[.int .i64 k, .slice (some ⟨b, off, none⟩) ps.length cap] 25)).alloc (.cells #[.int .i64 0, .slice none 0 0] 25)) = W at *
  have z1 : w.heap.size + 1 < W.heap.size := World.block_lt_of_cell? _ _ q2
  have z0 : w.heap.size < W.heap.size := by omega
  have m1 : ¬ w.heap.size = W.heap.size := by omega
  have m2 : ¬ w.heap.size + 1 = W.heap.size := by omega
  go_region_law (refine step_append_lies _ (by rfl) _ _ _ (by rfl) W.heap.size 28 i0 _ 2 16 Try.underlying23 HI.out HZ0.out HZ1.out HZ2.out rfl (by omega) (.slice (some ⟨W.heap.size, 0, none⟩) 0 0) 0 [] (by rfl) ((World.ownsRow_made W #[] 0 (Nat.le_refl _) (by unfold maxLen; omega) rfl).drew) ⟨b, off, none⟩ ps.length cap (flat ps) (by rfl) (flat_len ps) (news_pts (HP.out.below (((B0.out.alloc (by omega) _)).drew))) (flat_one ps) h0 (by unfold maxLen; omega) (by omega) (by simp) (W.heap.size + 1) (by simp) ?_; intro gg cap' wa hown1 hgrow hat hlt'; have hbw := made_far hgrow rfl; have x4 := cell_later hbw q0; have x0 := cell_later hbw q2; have x1 := cell_later hbw q3; have x2 := (hbw.frozen (p := ⟨w.heap.size + 1, 0, none⟩) z1).trans q4; have x3 := (hbw.frozen (p := ⟨w.heap.size + 1, 1, none⟩) z1).trans q5; have HBW := Lib.hid hbw; have HOW := Lib.hid hown1; clear hbw hgrow hat hown1)
  all_goals go_wp2
  all_goals refine bodyPost_ret (v := .agg #[.int .i64 k, .slice (some ⟨gg, 0, none⟩) ps.length cap']) (by simp [results, Try.results45, go_sem, x0, x1]) rfl ?_
  all_goals
    have hown1 := HOW.out
    rw [Nat.zero_add, List.nil_append] at hown1
    obtain ⟨a2, cap2, e2, hpt, hso, hnew⟩ := owned_pts hown1 rfl
    obtain ⟨rfl, rfl⟩ : some ⟨gg, 0, none⟩ = a2 ∧ cap' = cap2 := by simpa using e2
    have hge := (hnew gg rfl).1
    have hne : blk (some ⟨gg, 0, none⟩) ≠ some (w.heap.size + 1) := by simp [blk]; omega
    exact ⟨gg, cap', rfl, (hpt.set hne).set hne, (hso.set _ _).set _ _, by omega, by simpa [World.setCell] using hlt', ((B0.out.trans (HBW.out.mono (by omega))).setCell (by simp) _).setCell (by simp) _⟩
end Go.Proofs.Ytopbpokcffdjnaa
