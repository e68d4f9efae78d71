/- Proved here: the program's SeqPairs answers the pairs, in memory of its own; rows of at most 1,048,576 points. -/
import Derived.Test.YtaefibefagbheaaWSeqRow
namespace Go.Proofs.Ytaefibefagbheaa
set_option linter.unusedVariables false
open Go.ChangeShapes Go.WideShapes Go.ChangeAt Go.RowKit

set_option maxRecDepth 100000 in
set_option maxHeartbeats 2000000 in
theorem implSeqPairs_few (pa pb : Option Addr) (ca cb : Nat) (a b : List (Int × Int)) (w : World) (hp : PtsAt w pa a) (hq : PtsAt w pb b) (hf : fewB [a.length, b.length] = true) :
    Calls Try.prog 15 #[.slice pa a.length ca, .slice pb b.length cb] w (OwnAns w 30 (zp (prs 0 0 a b))) := by
  have HP := Lib.hid hp
  have HQ := Lib.hid hq
  obtain ⟨h1, h2⟩ := fewB_two hf
  clear hp hq
  obtain ⟨i0, hi, hz0, hz1, hz2⟩ := info_parts infoPair
  have JI := Lib.hid hi
  have JZ0 := Lib.hid hz0
  have JZ1 := Lib.hid hz1
  have JZ2 := Lib.hid hz2
  clear hi hz0 hz1 hz2
  have hz := run_zeroTab
  go_enter Try.func15, Try.ntmps15
  go_wp2_with fail
  refine (inBound2 w.heap.size pa pb a.length b.length ca cb _ (by simp) (by simp) (by omega) (by omega)).mono ?_
  rintro e w1 ⟨rfl, rfl⟩
  rw [hf]
  clear hf
  have Ba : Below w.heap.size w (w.alloc (Obj.cells #[Value.slice pa a.length ca, Value.slice pb b.length cb] 23)) := (Below.refl _ _).alloc (Nat.le_refl _) _
  go_wp2_with fail
  refine (fillLong_any _ _ _ _ _ _ _ (HP.out.below Ba) (HQ.out.below Ba) h1 h2).mono ?_
  rintro e w1 ⟨rfl, hb⟩
  have HB : Hid (Below w.heap.size w w1) := Ba.trans (hb.mono (by simp))
  clear hb Ba
  have HT := Lib.hid (tab_there (n := (tabOf a b).toArray.size) (by simp [tab_len]) (zer_row w1 52))
  have HAT : Hid (∀ i k, i < 13 → k < 13 → ((w1.alloc (.cells zer 52)).setCells w1.heap.size 0 (tabOf a b)).cell? ⟨w1.heap.size, i * 13 + k, none⟩ = some (.int .i64 (lcs (a.drop i) (b.drop k) : Nat))) :=
    fun i k hi hk => tab_at (World.rangeAt_setCells_same (w1.alloc (.cells zer 52)) w1.heap.size 0 (tabOf a b) (tab_there (tab_len a b) (zer_row w1 _))) hi hk
  have HBB : Hid (Below w.heap.size w ((w1.alloc (.cells zer 52)).setCells w1.heap.size 0 (tabOf a b))) := below_setCells _ HB.out.size _ _ _ (HB.out.alloc HB.out.size _)
  have HI := Lib.hid (show (Try.prog.info? 52).map (·.size) = some (tabOf a b).toArray.size by simpa using info_tab2 a b)
  have HO := Lib.hid (tab_one a b)
  have hl : tabOf a b = (tabOf a b).toArray.toList := rfl
  rw [hl] at HAT HBB
  clear hl
  generalize (tabOf a b).toArray = T at *
  go_wp2_with (refine wpList_store_mid rfl 52 _ _ rfl w1.heap.size 0 T (by rfl) (by rfl) HT.out HI.out HO.out ?_)
  have hlt : w1.heap.size < ((w1.alloc (.cells zer 52)).setCells w1.heap.size 0 T.toList).heap.size := World.block_lt_of_cell? _ _ (HAT.out 0 0 (by omega) (by omega))
  generalize (w1.alloc (.cells zer 52)).setCells w1.heap.size 0 T.toList = W at *
  generalize w1.heap.size = B at *
  clear HT HI HO HB hz
  go_loopw [6, 7, 8] (fun v i k wr => ∃ (x y : Nat) (done : List (Nat × Nat)), x ≤ a.length ∧ y ≤ b.length ∧ i = .int .i64 x ∧ k = .int .i64 y ∧ Sofar a b x y done ∧ Grow W 30 (zp done) wr v) (fun _ i k _ => (a.length - (intOf i).toNat) + (b.length - (intOf k).toNat))
  case atStart => exact ⟨0, 0, [], Nat.zero_le _, Nat.zero_le _, rfl, rfl, Sofar.start a b, Grow.nil W _⟩
  case round =>
    obtain ⟨x, y, done, hx, hy, rfl, rfl, hso, hgr⟩ := hrel
    have HS := Lib.hid hso
    have HG := Lib.hid hgr
    clear hso hgr
    by_cases hxl : x < a.length
    · by_cases hyl : y < b.length
      · obtain ⟨ba, oa, rfl, hba, hx1, hx2⟩ := HP.out x hxl
        obtain ⟨bb, ob, rfl, hbb, hy1, hy2⟩ := HQ.out y hyl
        have hBW := HBB.out.size
        rw [← HBB.out.cell (p := ⟨ba, _, none⟩) hba, ← HG.out.bel.cell (p := ⟨ba, _, none⟩) (by show ba < _; omega)] at hx1 hx2
        rw [← HBB.out.cell (p := ⟨bb, _, none⟩) hbb, ← HG.out.bel.cell (p := ⟨bb, _, none⟩) (by show bb < _; omega)] at hy1 hy2
        have hn' := run_ptEql
        have q5 : (0 : Int) ≤ (x : Int) := by omega
        have q7 : (0 : Int) ≤ (y : Int) := by omega
        by_cases hs : ptEq (px a x, py a x) (px b y, py b y) = true
        · have HN := Lib.hid (HS.out.pair hxl hyl hs)
          go_wp2
          go_quiet (fail)
          clear hn' hx1 hx2 hy1 hy2
          have HG' := Lib.hid (HG.out.drewN nq)
          generalize wr.drewN nq = W1 at HG' ⊢
          clear HG
          have hdl : (zp done).length ≤ 12 := by rw [zp_len]; have := HS.out.2; omega
          have hbw := HG'.out.bel.size
          go_wp2_with (at_builtin; refine wpList_append_lies _ (by rfl) _ _ _ (by rfl) W.heap.size 30 i0 _ 2 16 Try.underlying26 JI.out JZ0.out JZ1.out JZ2.out rfl (by omega) u6 (zp done).length (flat (zp done)) (by rfl) (HG'.out.own.alloc _) ⟨W1.heap.size, 0, none⟩ 1 1 [.int .i64 x, .int .i64 y] (by rfl) (by rfl) (World.news_of_block (cs := #[.int .i64 x, .int .i64 y]) (t := 30) (fr := (0, 0)) (heap_alloc_new W1 _)) (by simp [Value.oneCell']) (by omega) (by unfold maxLen; omega) (by omega) (by simp; omega) (W1.heap.size + 1) (by simp) ?_; intro gg cap' wa hown1 hgrow hat hlt')
          have HG2 : Hid (Grow W 30 (zp (done ++ [(x, y)])) wa (.slice (some ⟨gg, 0, none⟩) ((zp done).length + 1) cap')) := by
            have e1 : zp (done ++ [(x, y)]) = zp done ++ [((x : Int), (y : Int))] := by simp [zp]
            rw [e1]
            exact HG'.out.more (ps := [((x : Int), (y : Int))]) ((Below.refl _ _).alloc (Nat.le_refl _) _) rfl hown1 hgrow
          clear hown1 hgrow hat hlt'
          go_wp2
          go_roundw
          case rel => exact ⟨x + 1, y + 1, _, by omega, by omega, by go_num, by go_num, HN.out, HG2.out⟩
          case measure => simp [intOf]; omega
        · have hs' : ptEq (px a x, py a x) (px b y, py b y) = false := by simpa using hs
          clear hs
          have d1 := HAT.out (x + 1) y (by omega) (by omega)
          have d2 := HAT.out x (y + 1) (by omega) (by omega)
          go_wp2
          go_quiet (fail)
          clear hn' hx1 hx2 hy1 hy2
          have HG' := Lib.hid (HG.out.drewN nq)
          generalize wr.drewN nq = W1 at HG' ⊢
          clear HG
          rw [← HG'.out.bel.cell (p := ⟨B, _, none⟩) hlt] at d1 d2
          have w1 : IntKind.i64.wrap ((x : Int) + 1) = (x : Int) + 1 := IntWalk.i64_in _ (by omega)
          have w2 : IntKind.i64.wrap ((y : Int) + 1) = (y : Int) + 1 := IntWalk.i64_in _ (by omega)
          have t1 : ((x : Int) + 1).toNat = x + 1 := by omega
          have t2 : ((y : Int) + 1).toNat = y + 1 := by omega
          have q1 : (0 : Int) ≤ (x : Int) + 1 := by omega
          have q2 : (x : Int) + 1 < 13 := by omega
          have q3 : (0 : Int) ≤ (y : Int) + 1 := by omega
          have q4 : (y : Int) + 1 < 13 := by omega
          have q6 : (x : Int) < 13 := by omega
          have q8 : (y : Int) < 13 := by omega
          by_cases hc : lcs (a.drop x) (b.drop (y + 1)) ≤ lcs (a.drop (x + 1)) (b.drop y)
          · have HN := Lib.hid (HS.out.left hxl hyl hs' hc)
            have hc' : decide (((lcs (a.drop x) (b.drop (y + 1)) : Nat) : Int) ≤ ((lcs (a.drop (x + 1)) (b.drop y) : Nat) : Int)) = true := by simp; exact hc
            generalize lcs (a.drop x) (b.drop (y + 1)) = X at *
            generalize lcs (a.drop (x + 1)) (b.drop y) = Y at *
            go_wp2
            go_quiet (fail)
            have HG2 := Lib.hid (HG'.out.drewN nq)
            generalize W1.drewN nq = W2 at HG2 ⊢
            clear HG' w1 w2 t1 t2 q1 q2 q3 q4 q5 q6 q7 q8 d1 d2
            go_wp2
            go_roundw
            case rel => exact ⟨x + 1, y, _, by omega, by omega, by go_num, rfl, HN.out, HG2.out⟩
            case measure => simp [intOf]; omega
          · have HN := Lib.hid (HS.out.right hxl hyl hs' hc)
            have hc' : decide (((lcs (a.drop x) (b.drop (y + 1)) : Nat) : Int) ≤ ((lcs (a.drop (x + 1)) (b.drop y) : Nat) : Int)) = false := by simp; omega
            generalize lcs (a.drop x) (b.drop (y + 1)) = X at *
            generalize lcs (a.drop (x + 1)) (b.drop y) = Y at *
            go_wp2
            go_quiet (fail)
            have HG2 := Lib.hid (HG'.out.drewN nq)
            generalize W1.drewN nq = W2 at HG2 ⊢
            clear HG' w1 w2 t1 t2 q1 q2 q3 q4 q5 q6 q7 q8 d1 d2
            go_wp2
            go_roundw
            case rel => exact ⟨x, y + 1, _, by omega, by omega, rfl, by go_num, HN.out, HG2.out⟩
            case measure => simp [intOf]; omega
      · have HD := Lib.hid (HS.out.stop (.inr (by omega)))
        go_wp2
        go_ret
        have hR := HG.out.ans HBB.out
        rw [HD.out] at hR
        exact hR
    · have HD := Lib.hid (HS.out.stop (.inl (by omega)))
      go_wp2
      go_ret
      have hR := HG.out.ans HBB.out
      rw [HD.out] at hR
      exact hR

set_option maxHeartbeats 1000000 in
theorem implSeqPairs_many (pa pb : Option Addr) (ca cb n m : Nat) (w : World) (hf : fewB [n, m] = false) (hl : n ≤ 1048576) (hl' : m ≤ 1048576) :
    Calls Try.prog 15 #[.slice pa n ca, .slice pb m cb] w (OwnAns w 30 []) := by
  go_enter Try.func15, Try.ntmps15
  go_wp2_with fail
  refine (inBound2 w.heap.size pa pb n m ca cb _ (by simp) (by simp) (by omega) (by omega)).mono ?_
  rintro e w1 ⟨rfl, rfl⟩
  rw [hf]
  clear hf
  go_wp2
  go_ret
  exact ⟨none, 0, rfl, World.ownsRow_nil _ _ _ _, (Below.refl _ _).alloc (Nat.le_refl _) _⟩

theorem implSeqPairs_own (pa pb : Option Addr) (ca cb : Nat) (a b : List (Int × Int)) (w : World) (hp : PtsAt w pa a) (hq : PtsAt w pb b) (hl : a.length ≤ 1048576) (hl' : b.length ≤ 1048576) :
    Calls Try.prog 15 #[.slice pa a.length ca, .slice pb b.length cb] w (OwnAns w 30 (zp (pairsOf a b))) := by
  cases hf : fewB [a.length, b.length] with
  | false => rw [pairsOf_many hf]; exact implSeqPairs_many pa pb ca cb _ _ w hf hl hl'
  | true => rw [pairsOf_few hf]; exact implSeqPairs_few pa pb ca cb a b w hp hq hf

theorem implSeqPairs_any (pa pb : Option Addr) (ca cb : Nat) (a b : List (Int × Int)) (w : World) (hp : PtsAt w pa a) (hq : PtsAt w pb b) (hl : a.length ≤ 1048576) (hl' : b.length ≤ 1048576) :
    Calls Try.prog 15 #[.slice pa a.length ca, .slice pb b.length cb] w (RowAns w (zp (pairsOf a b))) :=
  (implSeqPairs_own pa pb ca cb a b w hp hq hl hl').mono fun _ _ h => h.row
end Go.Proofs.Ytaefibefagbheaa
