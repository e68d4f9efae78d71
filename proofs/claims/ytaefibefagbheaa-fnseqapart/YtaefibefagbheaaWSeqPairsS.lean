/- Proved here: the model's SeqPairs answers the pairs, in memory of its own; rows of at most 1,048,576 points. -/
import Derived.Test.YtaefibefagbheaaWSeqCutA
namespace Go.Proofs.Ytaefibefagbheaa
set_option linter.unusedVariables false
open Go.ChangeShapes Go.WideShapes Go.ChangeAt Go.RowKit

set_option maxRecDepth 100000 in
set_option maxHeartbeats 2000000 in
theorem specSeqPairs_few (pa pb : Option Addr) (ca cb : Nat) (a b : List (Int × Int)) (w : World) (hp : PtsAt w pa a) (hq : PtsAt w pb b) (hf : fewB [a.length, b.length] = true) (hca : a.length ≤ ca) (hcb : b.length ≤ cb) :
    Calls Try.prog 16 #[.slice pa a.length ca, .slice pb b.length cb] w (RowAns w (zp (prs 0 0 a b))) := by
  have HP := Lib.hid hp
  have HQ := Lib.hid hq
  obtain ⟨h1, h2⟩ := fewB_two hf
  have HF := Lib.hid hf
  clear hp hq hf
  obtain ⟨i0, hi, hz0, hz1, hz2⟩ := info_parts infoPair
  have JI := Lib.hid hi
  have JZ0 := Lib.hid hz0
  have JZ1 := Lib.hid hz1
  have JZ2 := Lib.hid hz2
  clear hi hz0 hz1 hz2
  go_enter Try.func16, Try.ntmps16
  go_wp2
  go_loopw [5, 6, 7] (fun v i k wr => ∃ (x y : Nat) (done : List (Nat × Nat)), x ≤ a.length ∧ y ≤ b.length ∧ i = .int .i64 x ∧ k = .int .i64 y ∧ Sofar a b x y done ∧ Grow w 30 (zp done) wr v) (fun _ i k _ => (a.length - (intOf i).toNat) + (b.length - (intOf k).toNat))
  case atStart => exact ⟨0, 0, [], Nat.zero_le _, Nat.zero_le _, rfl, rfl, Sofar.start a b, Grow.lit w _⟩
  case round =>
    obtain ⟨x, y, done, hx, hy, rfl, rfl, hso, hgr⟩ := hrel
    have HS := Lib.hid hso
    have HG := Lib.hid hgr
    clear hso hgr
    by_cases hxl : x < a.length
    · by_cases hyl : y < b.length
      · obtain ⟨ba, oa, rfl, hba, hx1, hx2⟩ := HP.out x hxl
        obtain ⟨bb, ob, rfl, hbb, hy1, hy2⟩ := HQ.out y hyl
        rw [← HG.out.bel.cell (p := ⟨ba, _, none⟩) hba] at hx1 hx2
        rw [← HG.out.bel.cell (p := ⟨bb, _, none⟩) hbb] at hy1 hy2
        have hn' := run_ptEql
        have q5 : (0 : Int) ≤ (x : Int) := by omega
        have q7 : (0 : Int) ≤ (y : Int) := by omega
        go_wp2_with fail
        refine (l5Few_any _ _ _ _ _ _ _ (by omega) (by omega)).mono ?_
        rintro e w1 ⟨rfl, rfl⟩
        rw [HF.out]
        by_cases hs : ptEq (px a x, py a x) (px b y, py b y) = true
        · have HN := Lib.hid (HS.out.pair hxl hyl hs)
          go_wp2
          go_quiet (fail)
          clear hn' hx1 hx2 hy1 hy2
          have HG' := Lib.hid (HG.out.drewN nq)
          generalize wr.drewN nq = W1 at HG' ⊢
          clear HG
          have hdl : (zp done).length ≤ 12 := by rw [zp_len]; have := HS.out.2; omega
          have hbw := HG'.out.bel.size
          go_wp2_with (at_builtin; refine wpList_append_lies _ (by rfl) _ _ _ (by rfl) w.heap.size 30 i0 _ 2 16 Try.underlying26 JI.out JZ0.out JZ1.out JZ2.out rfl (by omega) u5 (zp done).length (flat (zp done)) (by rfl) (HG'.out.own.alloc _) ⟨W1.heap.size, 0, none⟩ 1 1 [.int .i64 x, .int .i64 y] (by rfl) (by rfl) (World.news_of_block (cs := #[.int .i64 x, .int .i64 y]) (t := 30) (fr := (0, 0)) (heap_alloc_new W1 _)) (by simp [Value.oneCell']) (by omega) (by unfold maxLen; omega) (by omega) (by simp; omega) (W1.heap.size + 1) (by simp) ?_; intro gg cap' wa hown1 hgrow hat hlt')
          have HG2 : Hid (Grow w 30 (zp (done ++ [(x, y)])) wa (.slice (some ⟨gg, 0, none⟩) ((zp done).length + 1) cap')) := by
            have e1 : zp (done ++ [(x, y)]) = zp done ++ [((x : Int), (y : Int))] := by simp [zp]
            rw [e1]
            exact HG'.out.more (ps := [((x : Int), (y : Int))]) ((Below.refl _ _).alloc (Nat.le_refl _) _) rfl hown1 hgrow
          clear hown1 hgrow hat hlt'
          go_wp2
          go_roundw
          case rel => exact ⟨x + 1, y + 1, _, by omega, by omega, by go_num, by go_num, HN.out, HG2.out⟩
          case measure => simp [intOf]; omega
        · have hs' : ptEq (px a x, py a x) (px b y, py b y) = false := by simpa using hs
          clear hs
          go_wp2
          go_quiet (fail)
          clear hn' hx1 hx2 hy1 hy2
          have HG' := Lib.hid (HG.out.drewN nq)
          generalize wr.drewN nq = W1 at HG' ⊢
          clear HG
          have w1 : IntKind.i64.wrap ((x : Int) + 1) = (x : Int) + 1 := IntWalk.i64_in _ (by omega)
          have w2 : IntKind.i64.wrap ((y : Int) + 1) = (y : Int) + 1 := IntWalk.i64_in _ (by omega)
          have s1 := fun u => run_cutLo u (some ⟨ba, oa, none⟩) a.length ca (x + 1) ((x : Int) + 1) rfl hxl
          have s2 := fun u => run_cutLo u (some ⟨bb, ob, none⟩) b.length cb y (y : Int) rfl hy
          have s3 := fun u => run_cutLo u (some ⟨ba, oa, none⟩) a.length ca x (x : Int) rfl hx
          have s4 := fun u => run_cutLo u (some ⟨bb, ob, none⟩) b.length cb (y + 1) ((y : Int) + 1) rfl hyl
          by_cases hc : lcs (a.drop x) (b.drop (y + 1)) ≤ lcs (a.drop (x + 1)) (b.drop y)
          · have HN := Lib.hid (HS.out.left hxl hyl hs' hc)
            have hc' : decide (((lcs (a.drop x) (b.drop (y + 1)) : Nat) : Int) ≤ ((lcs (a.drop (x + 1)) (b.drop y) : Nat) : Int)) = true := by simp; exact hc
            go_wp2
            go_region_held3 (fun w' => Grow w 30 (zp done) w' u5)
              (first
                | exact HG'.out.drewN 1
                | exact Grow.below (by assumption) hbn)
              ((go_at_call 37
                refine (l5Long_cut _ _ _ _ a b _ _ _ ?_ ?_ h1 h2 hca hcb).mono ?_
                · exact HP.out.below (Grow.bel (by assumption))
                · exact HQ.out.below (Grow.bel (by assumption))
                rintro e wn ⟨rfl, hbn⟩))
            all_goals
              have HG2 := Lib.hid (show Grow w 30 (zp done) wn u5 by assumption)
              clear w1 w2 s1 s2 s3 s4 q5 q7 hbn
              go_wp2
              go_roundw
              case rel => exact ⟨x + 1, y, _, by omega, by omega, by go_num, rfl, HN.out, HG2.out⟩
              case measure => simp [intOf]; omega
          · have HN := Lib.hid (HS.out.right hxl hyl hs' hc)
            have hc' : decide (((lcs (a.drop x) (b.drop (y + 1)) : Nat) : Int) ≤ ((lcs (a.drop (x + 1)) (b.drop y) : Nat) : Int)) = false := by simp; omega
            go_wp2
            go_region_held3 (fun w' => Grow w 30 (zp done) w' u5)
              (first
                | exact HG'.out.drewN 1
                | exact Grow.below (by assumption) hbn)
              ((go_at_call 37
                refine (l5Long_cut _ _ _ _ a b _ _ _ ?_ ?_ h1 h2 hca hcb).mono ?_
                · exact HP.out.below (Grow.bel (by assumption))
                · exact HQ.out.below (Grow.bel (by assumption))
                rintro e wn ⟨rfl, hbn⟩))
            all_goals
              have HG2 := Lib.hid (show Grow w 30 (zp done) wn u5 by assumption)
              clear w1 w2 s1 s2 s3 s4 q5 q7 hbn
              go_wp2
              go_roundw
              case rel => exact ⟨x, y + 1, _, by omega, by omega, rfl, by go_num, HN.out, HG2.out⟩
              case measure => simp [intOf]; omega
      · have HD := Lib.hid (HS.out.stop (.inr (by omega)))
        go_wp2
        go_ret
        obtain ⟨a', cap', rfl, hR⟩ := HG.out.row (Below.refl _ _)
        rw [HD.out] at hR ⊢
        exact ⟨a', cap', rfl, hR⟩
    · have HD := Lib.hid (HS.out.stop (.inl (by omega)))
      go_wp2
      go_ret
      obtain ⟨a', cap', rfl, hR⟩ := HG.out.row (Below.refl _ _)
      rw [HD.out] at hR ⊢
      exact ⟨a', cap', rfl, hR⟩

set_option maxRecDepth 100000 in
set_option maxHeartbeats 1000000 in
theorem specSeqPairs_many (pa pb : Option Addr) (ca cb n m : Nat) (w : World) (hf : fewB [n, m] = false) (hl : n ≤ 1048576) (hl' : m ≤ 1048576) :
    Calls Try.prog 16 #[.slice pa n ca, .slice pb m cb] w (RowAns w []) := by
  have HF := Lib.hid hf
  clear hf
  by_cases h1 : 0 < n
  · by_cases h2 : 0 < m
    · go_enter Try.func16, Try.ntmps16
      go_wp2
      refine wp_loop_rounds 1 ?_
      rw [rounds_succ]
      go_wp2_with fail
      refine (l5Few_any _ _ _ _ _ _ _ hl hl').mono ?_
      rintro e w1 ⟨rfl, rfl⟩
      rw [HF.out]
      go_wp2
      go_ret
      exact ⟨_, _, rfl, PtsAt.nil _ _, fun i hi => absurd hi (Nat.not_lt_zero _), fun x h => by simp [blk] at h; simp; omega, (Below.refl _ _).alloc (Nat.le_refl _) _⟩
    · go_enter Try.func16, Try.ntmps16
      go_wp2
      refine wp_loop_rounds 1 ?_
      rw [rounds_succ]
      go_wp2
      go_ret
      exact ⟨_, _, rfl, PtsAt.nil _ _, fun i hi => absurd hi (Nat.not_lt_zero _), fun x h => by simp [blk] at h; simp; omega, (Below.refl _ _).alloc (Nat.le_refl _) _⟩
  · go_enter Try.func16, Try.ntmps16
    go_wp2
    refine wp_loop_rounds 1 ?_
    rw [rounds_succ]
    go_wp2
    go_ret
    exact ⟨_, _, rfl, PtsAt.nil _ _, fun i hi => absurd hi (Nat.not_lt_zero _), fun x h => by simp [blk] at h; simp; omega, (Below.refl _ _).alloc (Nat.le_refl _) _⟩

theorem specSeqPairs_any (pa pb : Option Addr) (ca cb : Nat) (a b : List (Int × Int)) (w : World) (hp : PtsAt w pa a) (hq : PtsAt w pb b) (hl : a.length ≤ 1048576) (hl' : b.length ≤ 1048576) (hca : a.length ≤ ca) (hcb : b.length ≤ cb) :
    Calls Try.prog 16 #[.slice pa a.length ca, .slice pb b.length cb] w (RowAns w (zp (pairsOf a b))) := by
  cases hf : fewB [a.length, b.length] with
  | false => rw [pairsOf_many hf]; exact specSeqPairs_many pa pb ca cb _ _ w hf hl hl'
  | true => rw [pairsOf_few hf]; exact specSeqPairs_few pa pb ca cb a b w hp hq hf hca hcb
end Go.Proofs.Ytaefibefagbheaa
