/- Proved here: what slices.Concat makes of two rows of points: the points of the first and then of the second, in a row of its own; at most 1,048,576 points, neither row empty or the second one empty. -/
import Derived.Test.YtopbpokcffdjnaaWGrow
import Derived.StillTailTactics
namespace Go.Proofs.Ytopbpokcffdjnaa
set_option linter.unusedVariables false
open Go.ChangeShapes Go.WideShapes Go.ChangeAt Go.RowKit Go.Deep

set_option maxHeartbeats 4000000 in
theorem concat_both (B b1 o1 c1 b2 o2 c2 : Nat) (xs ys : List (Int × Int)) (w : World) (hc1 : w.cell? ⟨B, 0, none⟩ = some (.slice (some ⟨b1, o1, none⟩) xs.length c1)) (hc2 : w.cell? ⟨B, 1, none⟩ = some (.slice (some ⟨b2, o2, none⟩) ys.length c2))
    (hx : PtsAt w (some ⟨b1, o1, none⟩) xs) (hy : PtsAt w (some ⟨b2, o2, none⟩) ys) (h0 : 0 < xs.length) (h1 : 0 < ys.length) (hl : xs.length + ys.length ≤ 1048576) :
    Calls Try.prog 97 #[.slice (some ⟨B, 0, none⟩) 2 2] w (PtsAns w (xs ++ ys)) := by
  have HX := Lib.hid hx
  have HY := Lib.hid hy
  have HC2 := Lib.hid hc2
  clear hx hy
  obtain ⟨i0, hi0, hz0, hz1, hz2⟩ := info_parts infoPt
  have HI := Lib.hid hi0
  have HZ0 := Lib.hid hz0
  have HZ1 := Lib.hid hz1
  have HZ2 := Lib.hid hz2
  clear hi0 hz0 hz1 hz2
  have zB : B < w.heap.size := World.block_lt_of_cell? _ _ hc1
  go_enter Try.func97, Try.ntmps97
  go_wp2
  refine wp_loop_rounds 3 ?_
  rw [rounds_succ]
  go_wp2
  rw [rounds_succ]
  go_wp2
  rw [rounds_succ]
  go_wp2_with fail
  refine (grow_any (xs.length + ys.length) _ (by omega) (by omega)).mono ?_
  rintro e w1 ⟨g0, cap0, rfl, hown0, hb1⟩
  have HO0 := Lib.hid hown0
  have B1 := Lib.hid hb1
  have d1 := cell_later hb1 hc1
  have d2 := cell_later hb1 hc2
  clear hown0 hb1 hc1 hc2
  have zs := B1.out.size
  go_wp2_with fail
  refine wp_loop_rounds 3 ?_
  rw [rounds_succ]
  go_wp2_with (at_builtin; refine wpList_append_lies _ (by rfl) _ _ _ (by rfl) w.heap.size 28 i0 _ 2 16 Try.underlying23 HI.out HZ0.out HZ1.out HZ2.out rfl (by omega) (.slice (some ⟨g0, 0, none⟩) 0 cap0) 0 [] (by rfl) HO0.out ⟨b1, o1, none⟩ xs.length c1 (flat xs) (by rfl) (flat_len xs) (news_pts (HX.out.below B1.out)) (flat_one _) h0 (by unfold maxLen; omega) (by omega) zs w1.heap.size rfl ?_; intro gg cap' wa hown1 hgrow hat hlt'; rw [Nat.zero_add, List.nil_append] at hown1; have HO1 := Lib.hid hown1; have B2 := Lib.hid (B1.out.grown hgrow zs (fun j e => (HO0.out.lt j e).1)); clear hown1 hgrow hat)
  have e2 := cell_later B2.out HC2.out
  clear d1 d2
  have zt := B2.out.size
  rw [rounds_succ]
  go_wp2_with (at_builtin; refine wpList_append_lies _ (by rfl) _ _ _ (by rfl) w.heap.size 28 i0 _ 2 16 Try.underlying23 HI.out HZ0.out HZ1.out HZ2.out rfl (by omega) (.slice (some ⟨gg, 0, none⟩) xs.length cap') xs.length (flat xs) (by rfl) HO1.out ⟨b2, o2, none⟩ ys.length c2 (flat ys) (by rfl) (flat_len ys) (news_pts (HY.out.below B2.out)) (flat_one _) h1 (by unfold maxLen; omega) (by omega) zt wa.heap.size rfl ?_; intro g2 cap2 wb hown2 hgrow2 hat2 hlt2; have HO2 := Lib.hid hown2; have B4 := Lib.hid (B2.out.grown hgrow2 zt (fun j e => (HO1.out.lt j e).1)); clear hown2 hgrow2 hat2)
  rw [rounds_succ]
  go_wp2
  go_ret
  have hown2 := HO2.out
  rw [← flat_app] at hown2
  obtain ⟨a2, c2', e2', hpt, hso, hnew⟩ := owned_pts hown2 (by simp)
  obtain ⟨rfl, rfl⟩ : some ⟨g2, 0, none⟩ = a2 ∧ cap2 = c2' := by simpa using e2'
  exact ⟨g2, cap2, by rw [List.length_append]; rfl, hpt, hso, (hnew g2 rfl).1, hlt2, B4.out⟩

set_option maxHeartbeats 4000000 in
theorem concat_one (B b1 o1 c1 b2 o2 c2 : Nat) (xs : List (Int × Int)) (w : World) (hc1 : w.cell? ⟨B, 0, none⟩ = some (.slice (some ⟨b1, o1, none⟩) xs.length c1)) (hc2 : w.cell? ⟨B, 1, none⟩ = some (.slice (some ⟨b2, o2, none⟩) 0 c2))
    (hx : PtsAt w (some ⟨b1, o1, none⟩) xs) (h0 : 0 < xs.length) (hl : xs.length ≤ 1048576) :
    Calls Try.prog 97 #[.slice (some ⟨B, 0, none⟩) 2 2] w (PtsAns w xs) := by
  have HX := Lib.hid hx
  have HC2 := Lib.hid hc2
  clear hx
  obtain ⟨i0, hi0, hz0, hz1, hz2⟩ := info_parts infoPt
  have HI := Lib.hid hi0
  have HZ0 := Lib.hid hz0
  have HZ1 := Lib.hid hz1
  have HZ2 := Lib.hid hz2
  clear hi0 hz0 hz1 hz2
  have zB : B < w.heap.size := World.block_lt_of_cell? _ _ hc1
  go_enter Try.func97, Try.ntmps97
  go_wp2
  refine wp_loop_rounds 3 ?_
  rw [rounds_succ]
  go_wp2
  rw [rounds_succ]
  go_wp2
  rw [rounds_succ]
  go_wp2_with fail
  refine (grow_any (xs.length) _ (by omega) (by omega)).mono ?_
  rintro e w1 ⟨g0, cap0, rfl, hown0, hb1⟩
  have HO0 := Lib.hid hown0
  have B1 := Lib.hid hb1
  have d1 := cell_later hb1 hc1
  have d2 := cell_later hb1 hc2
  clear hown0 hb1 hc1 hc2
  have zs := B1.out.size
  go_wp2_with fail
  refine wp_loop_rounds 3 ?_
  rw [rounds_succ]
  go_wp2_with (at_builtin; refine wpList_append_lies _ (by rfl) _ _ _ (by rfl) w.heap.size 28 i0 _ 2 16 Try.underlying23 HI.out HZ0.out HZ1.out HZ2.out rfl (by omega) (.slice (some ⟨g0, 0, none⟩) 0 cap0) 0 [] (by rfl) HO0.out ⟨b1, o1, none⟩ xs.length c1 (flat xs) (by rfl) (flat_len xs) (news_pts (HX.out.below B1.out)) (flat_one _) h0 (by unfold maxLen; omega) (by omega) zs w1.heap.size rfl ?_; intro gg cap' wa hown1 hgrow hat hlt'; rw [Nat.zero_add, List.nil_append] at hown1; have HO1 := Lib.hid hown1; have B2 := Lib.hid (B1.out.grown hgrow zs (fun j e => (HO0.out.lt j e).1)); clear hown1 hgrow hat)
  have e2 := cell_later B2.out HC2.out
  clear d1 d2
  obtain ⟨a2, c2', e2', hpt, hso, hnew⟩ := owned_pts HO1.out rfl
  obtain ⟨rfl, rfl⟩ : some ⟨gg, 0, none⟩ = a2 ∧ cap' = c2' := by simpa using e2'
  have P2 := Lib.hid hpt
  have S2 := Lib.hid hso
  have N2 := Lib.hid hnew
  have hle : xs.length ≤ cap' := by
    rcases HO1.out.2 with ⟨h, _⟩ | ⟨g, c, cur, h, _, _, hc, _⟩
    · cases h
    · cases h; exact hc
  clear e2' hpt hso hnew
  rw [rounds_succ]
  go_wp2
  rw [rounds_succ]
  go_wp2
  go_ret
  exact ⟨gg, cap', rfl, P2.out, S2.out, (N2.out gg rfl).1, hlt', B2.out⟩

theorem PtsAns.since {w W : World} {ps : List (Int × Int)} {e : Ending} {w' : World} (h : PtsAns W ps e w') (hb : Below w.heap.size w W) : PtsAns w ps e w' := by
  obtain ⟨g, cap, he, h1, h2, h3, h4, h5⟩ := h
  exact ⟨g, cap, he, h1, h2, Nat.le_trans hb.size h3, h4, hb.trans (h5.mono hb.size)⟩

set_option maxHeartbeats 2000000 in
theorem rowFrom_any (b off cap i : Nat) (ps : List (Int × Int)) (w : World) (hp : PtsAt w (some ⟨b, off, none⟩) ps) (hl : ps.length ≤ 1048576) (hcap : ps.length ≤ cap) (h0 : 0 < i) (hi : i < ps.length) :
    Calls Try.prog 94 #[.slice (some ⟨b, off, none⟩) ps.length cap, .int .i64 i] w (PtsAns w (rowAt ps i)) := by
  have HP := Lib.hid hp
  clear hp
  have e1 : i ≤ ps.length := by omega
  have e2 : ¬ cap = i := by omega
  have e3 : i ≤ cap := by omega
  go_enter Try.func94, Try.ntmps94
  go_wp2
  go_still_tail 6, (by kernel_rfl)
  go_wp2_with fail
  have hB : Below w.heap.size w (w.alloc (.cells #[.slice (some ⟨b, off + i * 2, none⟩) (ps.length - i) (cap - i), .slice (some ⟨b, off, none⟩) i cap] 23)).drew := ((Below.refl _ _).alloc (Nat.le_refl _) _).drew
  refine (concat_both w.heap.size b (off + i * 2) (cap - i) b off cap (ps.drop i) (ps.take i) _ ?_ ?_ ((HP.out.drop i).below hB) ((HP.out.take i).below hB) (by rw [List.length_drop]; omega) (by rw [List.length_take]; omega) (by rw [List.length_drop, List.length_take]; omega)).mono ?_
  · rw [List.length_drop]
    show (w.alloc _).cell? _ = _
    simp [go_sem]
  · rw [List.length_take, Nat.min_eq_left e1]
    show (w.alloc _).cell? _ = _
    simp [go_sem]
  intro e w2 hA
  obtain ⟨g, c2, rfl, h1, h2, h3, h4, h5⟩ := PtsAns.since hA hB
  have H1 := Lib.hid h1
  have H2 := Lib.hid h2
  have H5 := Lib.hid h5
  clear hA hB h1 h2 h5
  go_wp2
  go_ret
  exact ⟨g, c2, by rw [rowAt_len _ e1]; rfl, H1.out, H2.out, h3, h4, H5.out⟩

set_option maxHeartbeats 2000000 in
theorem rowFrom_zero (b off cap : Nat) (ps : List (Int × Int)) (w : World) (hp : PtsAt w (some ⟨b, off, none⟩) ps) (hl : ps.length ≤ 1048576) (hcap : ps.length ≤ cap) (h0 : 0 < ps.length) :
    Calls Try.prog 94 #[.slice (some ⟨b, off, none⟩) ps.length cap, .int .i64 0] w (PtsAns w ps) := by
  have HP := Lib.hid hp
  clear hp
  have e2 : ¬ cap = 0 := by omega
  go_enter Try.func94, Try.ntmps94
  go_wp2
  go_still_tail 6, (by kernel_rfl)
  go_wp2_with fail
  have hB : Below w.heap.size w (w.alloc (.cells #[.slice (some ⟨b, off, none⟩) ps.length cap, .slice (some ⟨b, off, none⟩) 0 cap] 23)).drew := ((Below.refl _ _).alloc (Nat.le_refl _) _).drew
  refine (concat_one w.heap.size b off cap b off cap ps _ ?_ ?_ (HP.out.below hB) h0 hl).mono ?_
  · show (w.alloc _).cell? _ = _
    simp [go_sem]
  · show (w.alloc _).cell? _ = _
    simp [go_sem]
  intro e w2 hA
  obtain ⟨g, c2, rfl, h1, h2, h3, h4, h5⟩ := PtsAns.since hA hB
  have H1 := Lib.hid h1
  have H2 := Lib.hid h2
  have H5 := Lib.hid h5
  clear hA hB h1 h2 h5
  go_wp2
  go_ret
  exact ⟨g, c2, rfl, H1.out, H2.out, h3, h4, H5.out⟩
end Go.Proofs.Ytopbpokcffdjnaa
