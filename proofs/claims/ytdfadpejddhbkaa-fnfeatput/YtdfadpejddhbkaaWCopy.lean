/- Proved here: the library's Clone of points and the model's copy of a shape: a row of its own with the same points; rows of 1 to 1,048,576 points. -/
import Derived.Test.YtdfadpejddhbkaaWBack
import Derived.BigRegion
import Derived.StillTailTactics
import Derived.Deep.SlicePairs
namespace Go.Proofs.Ytdfadpejddhbkaa
set_option linter.unusedVariables false
open Go.ChangeShapes Go.WideShapes Go.ChangeAt Go.RowKit Go.Deep

/-- what a function that makes points answers -/
def PtsAns (w : World) (ps : List (Int × Int)) (e : Ending) (w' : World) : Prop :=
  ∃ g cap, e = .returned (.slice (some ⟨g, 0, none⟩) ps.length cap) ∧ PtsAt w' (some ⟨g, 0, none⟩) ps ∧ Soft w' (some ⟨g, 0, none⟩) ps.length ∧ w.heap.size ≤ g ∧ g < w'.heap.size ∧ Below w.heap.size w w'

theorem news_pts {w : World} {b off : Nat} {ps : List (Int × Int)} (h : PtsAt w (some ⟨b, off, none⟩) ps) : ∀ j u, (flat ps)[j]? = some u → w.cell? ((⟨b, off, none⟩ : Addr).add j) = some u := by
  intro j u hu
  have hj : j < ps.length * 2 := by
    have := (List.getElem?_eq_some_iff.1 hu).1
    rw [flat_len] at this
    exact this
  obtain ⟨b', off', e, _, h1, h2⟩ := h (j / 2) (by omega)
  obtain ⟨rfl, rfl⟩ : b = b' ∧ off = off' := by simpa using e
  obtain ⟨f1, f2⟩ := flat_at ps (j / 2) (by omega)
  rw [add_plain]
  rcases (show j = j / 2 * 2 ∨ j = j / 2 * 2 + 1 by omega) with e | e
  · rw [← e] at f1 h1
    rw [hu] at f1
    rw [h1, f1]
  · rw [← e] at f2
    rw [Nat.add_assoc, ← e] at h2
    rw [hu] at f2
    rw [h2, f2]

theorem flat_one (ps : List (Int × Int)) : ∀ u ∈ flat ps, u.oneCell' = true := by
  intro u hu
  simp only [flat, List.mem_flatMap] at hu
  obtain ⟨p, _, h⟩ := hu
  simp at h
  rcases h with rfl | rfl <;> rfl

set_option maxHeartbeats 1000000 in
theorem clone_any (b off cap : Nat) (ps : List (Int × Int)) (w : World) (hp : PtsAt w (some ⟨b, off, none⟩) ps) (hl : ps.length ≤ 1048576) (h0 : 0 < ps.length) :
    Calls Try.prog 36 #[.slice (some ⟨b, off, none⟩) ps.length cap] w (PtsAns w ps) := by
  have HP := Lib.hid hp
  clear hp
  obtain ⟨i0, hi, hz0, hz1, hz2⟩ := info_parts infoPt
  have HI := Lib.hid hi
  have HZ0 := Lib.hid hz0
  have HZ1 := Lib.hid hz1
  have HZ2 := Lib.hid hz2
  clear hi hz0 hz1 hz2
  have heq := fun w => Lib.run_eql_slice_nil (P := Try.prog) w 23 32 (some ⟨b, off, none⟩) ps.length cap 0 0 Try.underlying23
  go_enter Try.func36, Try.ntmps36
  go_wp2_with (at_builtin; refine wpList_append_lies _ (by rfl) _ _ _ (by rfl) w.heap.size 32 i0 _ 2 16 Try.underlying23 HI.out HZ0.out HZ1.out HZ2.out rfl (by omega) (.slice (some ⟨w.heap.size, 0, none⟩) 0 0) 0 [] (by rfl) (World.ownsRow_made w #[] 0 (Nat.le_refl _) (by unfold maxLen; omega) rfl) ⟨b, off, none⟩ ps.length cap (flat ps) (by rfl) (flat_len ps) (news_pts (HP.out.below ((Below.refl _ _).alloc (Nat.le_refl _) _))) (flat_one ps) h0 (by unfold maxLen; omega) (by omega) (by simp) (w.heap.size + 1) (by simp) ?_; intro gg cap' wa hown1 hgrow hat hlt')
  go_ret
  rw [Nat.zero_add, List.nil_append] at hown1
  obtain ⟨a2, cap2, e2, hpt, hso, hnew⟩ := owned_pts hown1 rfl
  obtain ⟨rfl, rfl⟩ : some ⟨gg, 0, none⟩ = a2 ∧ cap' = cap2 := by simpa using e2
  refine ⟨gg, cap', rfl, hpt, hso, ?_, hlt', ((Below.refl _ _).alloc (Nat.le_refl _) _).grown hgrow (by simp) (fun j e => by simp [Value.ownBlock] at e; omega)⟩
  exact (hnew gg rfl).1

theorem made_far {W wa : World} {O : Obj} {v : Value} (hg : ((W.alloc O).drew).grownBy wa v.ownBlock) (hv : v.ownBlock = some W.heap.size) : Below W.heap.size W wa := by
  rw [hv] at hg
  have h1 : (W.alloc O).grownBy wa (some W.heap.size) := ⟨hg.os, hg.tape, hg.output, hg.size, hg.block⟩
  exact ((Below.refl _ _).alloc (Nat.le_refl _) _).grown h1 (by simp) (fun j e => by simp at e; omega)

set_option maxHeartbeats 2000000 in
theorem l1Copy_any (k : Int) (b off cap : Nat) (ps : List (Int × Int)) (w : World) (hp : PtsAt w (some ⟨b, off, none⟩) ps) (hl : ps.length ≤ 1048576) (h0 : 0 < ps.length) :
    Calls Try.prog 43 #[.agg #[.int .i64 k, .slice (some ⟨b, off, none⟩) ps.length cap]] w fun e w' => ∃ g cap2, e = .returned (.agg #[.int .i64 k, .slice (some ⟨g, 0, none⟩) ps.length cap2]) ∧ PtsAt w' (some ⟨g, 0, none⟩) ps ∧ Soft w' (some ⟨g, 0, none⟩) ps.length ∧ w.heap.size ≤ g ∧ g < w'.heap.size ∧ Below w.heap.size w w' := by
  have HP := Lib.hid hp
  clear hp
  obtain ⟨i0, hi, hz0, hz1, hz2⟩ := info_parts infoPt
  have HI := Lib.hid hi
  have HZ0 := Lib.hid hz0
  have HZ1 := Lib.hid hz1
  have HZ2 := Lib.hid hz2
  clear hi hz0 hz1 hz2
  go_enter Try.func43, Try.ntmps43
  go_wp2
  have q0 : ((w.alloc (.cells #[.int .i64 k, .slice (some ⟨b, off, none⟩) ps.length cap] 25)).alloc (.cells #[.int .i64 0, .slice none 0 0] 25)).cell? ⟨w.heap.size, 0, none⟩ = some (.int .i64 k) := by simp [go_sem]
  have q1 : ((w.alloc (.cells #[.int .i64 k, .slice (some ⟨b, off, none⟩) ps.length cap] 25)).alloc (.cells #[.int .i64 0, .slice none 0 0] 25)).cell? ⟨w.heap.size, 1, none⟩ = some (.slice (some ⟨b, off, none⟩) ps.length cap) := by simp [go_sem]
  have q2 : ((w.alloc (.cells #[.int .i64 k, .slice (some ⟨b, off, none⟩) ps.length cap] 25)).alloc (.cells #[.int .i64 0, .slice none 0 0] 25)).cell? ⟨w.heap.size + 1, 0, none⟩ = some (.int .i64 0) := by simp [go_sem]
  have q3 : ((w.alloc (.cells #[.int .i64 k, .slice (some ⟨b, off, none⟩) ps.length cap] 25)).alloc (.cells #[.int .i64 0, .slice none 0 0] 25)).cell? ⟨w.heap.size + 1, 1, none⟩ = some (.slice none 0 0) := by simp [go_sem]
  have q4 : ((w.alloc (.cells #[.int .i64 k, .slice (some ⟨b, off, none⟩) ps.length cap] 25)).alloc (.cells #[.int .i64 0, .slice none 0 0] 25)).frozen? ⟨w.heap.size + 1, 0, none⟩ = false := by simp [go_sem]
  have q5 : ((w.alloc (.cells #[.int .i64 k, .slice (some ⟨b, off, none⟩) ps.length cap] 25)).alloc (.cells #[.int .i64 0, .slice none 0 0] 25)).frozen? ⟨w.heap.size + 1, 1, none⟩ = false := by simp [go_sem]
  have B0 : Hid (Below w.heap.size w ((w.alloc (.cells #[.int .i64 k, .slice (some ⟨b, off, none⟩) ps.length cap] 25)).alloc (.cells #[.int .i64 0, .slice none 0 0] 25))) := ((Below.refl _ _).alloc (Nat.le_refl _) _).alloc (by simp) _
  generalize ((w.alloc (.cells #[.int .i64 k, .slice (some ⟨b, off, none⟩) ps.length cap] 25)).alloc (.cells #[.int .i64 0, .slice none 0 0] 25)) = W at *
  have z1 : w.heap.size + 1 < W.heap.size := World.block_lt_of_cell? _ _ q2
  have z0 : w.heap.size < W.heap.size := by omega
  have m1 : ¬ w.heap.size = W.heap.size := by omega
  have m2 : ¬ w.heap.size + 1 = W.heap.size := by omega
  go_region_law (refine step_append_lies _ (by rfl) _ _ _ (by rfl) W.heap.size 32 i0 _ 2 16 Try.underlying23 HI.out HZ0.out HZ1.out HZ2.out rfl (by omega) (.slice (some ⟨W.heap.size, 0, none⟩) 0 0) 0 [] (by rfl) ((World.ownsRow_made W #[] 0 (Nat.le_refl _) (by unfold maxLen; omega) rfl).drew) ⟨b, off, none⟩ ps.length cap (flat ps) (by rfl) (flat_len ps) (news_pts (HP.out.below (((B0.out.alloc (by omega) _)).drew))) (flat_one ps) h0 (by unfold maxLen; omega) (by omega) (by simp) (W.heap.size + 1) (by simp) ?_; intro gg cap' wa hown1 hgrow hat hlt'; have hbw := made_far hgrow rfl; have x4 := cell_later hbw q0; have x0 := cell_later hbw q2; have x1 := cell_later hbw q3; have x2 := (hbw.frozen (p := ⟨w.heap.size + 1, 0, none⟩) z1).trans q4; have x3 := (hbw.frozen (p := ⟨w.heap.size + 1, 1, none⟩) z1).trans q5; have HBW := Lib.hid hbw; have HOW := Lib.hid hown1; clear hbw hgrow hat hown1)
  all_goals go_wp2
  all_goals refine bodyPost_ret (v := .agg #[.int .i64 k, .slice (some ⟨gg, 0, none⟩) ps.length cap']) (by simp [results, Try.results43, go_sem, x0, x1]) rfl ?_
  all_goals
    have hown1 := HOW.out
    rw [Nat.zero_add, List.nil_append] at hown1
    obtain ⟨a2, cap2, e2, hpt, hso, hnew⟩ := owned_pts hown1 rfl
    obtain ⟨rfl, rfl⟩ : some ⟨gg, 0, none⟩ = a2 ∧ cap' = cap2 := by simpa using e2
    have hge := (hnew gg rfl).1
    have hne : blk (some ⟨gg, 0, none⟩) ≠ some (w.heap.size + 1) := by simp [blk]; omega
    exact ⟨gg, cap', rfl, (hpt.set hne).set hne, (hso.set _ _).set _ _, by omega, by simpa [World.setCell] using hlt', ((B0.out.trans (HBW.out.mono (by omega))).setCell (by simp) _).setCell (by simp) _⟩
end Go.Proofs.Ytdfadpejddhbkaa
