/- Proved here: the model's function that tells how many points of two rows can be one answers it, and 0 if a row has more than 12; rows of at most 1,048,576 points. -/
import Derived.Test.YtaefibefagbheaaWSeqLong
namespace Go.Proofs.Ytaefibefagbheaa
set_option linter.unusedVariables false
open Go.ChangeShapes Go.WideShapes Go.ChangeAt Go.RowKit

theorem l1Min_any (a b : Int) (w : World) : Calls Try.prog 49 #[.int .i64 a, .int .i64 b] w fun e w' => e = .returned (.int .i64 (min a b)) ∧ w' = w := by
  go_enter Try.func49, Try.ntmps49
  go_wp2
  all_goals go_ret
  all_goals exact ⟨by simp; omega, rfl⟩

theorem l1Max_any (a b : Int) (w : World) : Calls Try.prog 48 #[.int .i64 a, .int .i64 b] w fun e w' => e = .returned (.int .i64 (max a b)) ∧ w' = w := by
  go_enter Try.func48, Try.ntmps48
  go_wp2
  all_goals go_ret
  all_goals exact ⟨by simp; omega, rfl⟩

theorem infoInt : (Try.prog.info? 3).map (fun i => (i.zero, i.size, i.bytes)) = some (some (.int .i64 0), 1, 8) := by kernel_rfl

theorem run_makeInts (u : World) (n : Nat) (hn : n ≤ 13) : (Instr.makeSlice 70 (.int .i64 (n : Int)) (.int .i64 (n : Int))).run Try.prog u =
      .ok (.slice (some ⟨u.heap.size, 0, none⟩) n n) (u.alloc (.cells (madeCells #[.int .i64 0] n) 3)) := by
  obtain ⟨i0, hi, hz0, hz1, hz2⟩ := info_parts infoInt
  have h := run_make (P := Try.prog) u 70 3 i0 (.int .i64 0) Try.underlying70 hi hz0 .i64 .i64 (n : Int) (n : Int) (by omega) (Int.le_refl _) (by rw [hz2]; omega) (by omega)
  simpa [hz1, Value.cells] using h

/-- how far the row at a place is filled: from m on -/
def rv (a b : List (Int × Int)) (i m j : Nat) : Int := if m ≤ j then (lcs (a.drop i) (b.drop j) : Nat) else 0

theorem rv_set (a b : List (Int × Int)) (i k j : Nat) {x : Int} (hx : ((lcs (a.drop i) (b.drop k) : Nat) : Int) = x) :
    (if j = k then Value.int .i64 x else .int .i64 (rv a b i (k + 1) j)) = .int .i64 (rv a b i k j) := by
  subst hx
  unfold rv
  by_cases e : j = k
  · subst e; rw [if_pos rfl, if_pos (Nat.le_refl _)]
  · rw [if_neg e]
    by_cases h : k + 1 ≤ j
    · rw [if_pos h, if_pos (by omega)]
    · rw [if_neg h, if_neg (by omega)]

theorem rv_top (a b : List (Int × Int)) (i j : Nat) (hj : j < b.length + 1) : rv a b i b.length j = 0 := by
  unfold rv
  split
  · next h => rw [List.drop_eq_nil_of_le h, lcs_nil']; rfl
  · rfl

theorem rv_all (a b : List (Int × Int)) (i j : Nat) : rv a b i 0 j = (lcs (a.drop i) (b.drop j) : Nat) := by unfold rv; rw [if_pos (Nat.zero_le _)]

/-- a row that holds numbers -/
abbrev Nums (w : World) (B n : Nat) (f : Nat → Int) : Prop := w.rowIs B 3 n (fun j => .int .i64 (f j))

set_option maxRecDepth 100000 in
set_option maxHeartbeats 1000000 in
theorem l5Long_any (pa pb : Option Addr) (ca cb : Nat) (a b : List (Int × Int)) (w : World) (hp : PtsAt w pa a) (hq : PtsAt w pb b) (hl : a.length ≤ 12) (hl' : b.length ≤ 12) :
    Calls Try.prog 37 #[.slice pa a.length ca, .slice pb b.length cb] w fun e w' => e = .returned (.int .i64 (lcs a b : Nat)) ∧ Below w.heap.size w w' := by
  have HP := Lib.hid hp
  have HQ := Lib.hid hq
  clear hp hq
  have hmk := fun u => run_makeInts u (b.length + 1) (by omega)
  simp only [Int.natCast_add, Int.natCast_one] at hmk
  go_enter Try.func37, Try.ntmps37
  go_wp2
  go_loopw [5, 6] (fun s i wr => ∃ n B : Nat, n ≤ a.length ∧ i = .int .i64 ((n : Int) - 1) ∧ s = .slice (some ⟨B, 0, none⟩) (b.length + 1) (b.length + 1) ∧ w.heap.size ≤ B ∧ Nums wr B (b.length + 1) (rv a b n 0) ∧ Below w.heap.size w wr) (fun _ i _ => (intOf i + 1).toNat)
  case atStart =>
    refine ⟨a.length, w.heap.size, Nat.le_refl _, rfl, rfl, Nat.le_refl _, (World.rowIs_made w (.int .i64 0) _ _).congr fun j hj => ?_, (Below.refl _ _).alloc (Nat.le_refl _) _⟩
    rw [rv_all, List.drop_eq_nil_of_le (Nat.le_refl _), lcs_nil]; rfl
  case round =>
    obtain ⟨n, B, hn, rfl, rfl, hB, hrow, hbel⟩ := hrel
    have HR := Lib.hid hrow
    have HB := Lib.hid hbel
    have hlt := hrow.lt
    clear hrow hbel
    rcases n with _ | i
    · simp only [Int.natCast_zero, Int.zero_sub]
      have h1 : decide ((0 : Int) ≤ -1) = false := by decide
      have d := HR.out.cell (i := 0) (by omega)
      simp only [rv_all, List.drop_zero] at d
      clear hmk
      go_wp2
      go_ret
      exact ⟨rfl, HB.out⟩
    · have e1 : ((i + 1 : Nat) : Int) - 1 = (i : Int) := by omega
      rw [e1]
      clear e1
      obtain ⟨W0, rfl⟩ : ∃ W0, W0 = wr := ⟨_, rfl⟩
      go_wp2
      go_loopw [8] (fun k wq => ∃ m : Nat, m ≤ b.length ∧ k = .int .i64 ((m : Int) - 1) ∧ Nums wq B (b.length + 1) (rv a b (i + 1) 0) ∧ Nums wq W0.heap.size (b.length + 1) (rv a b i m) ∧ Below w.heap.size w wq) (fun k _ => (intOf k + 1).toNat)
      case atStart =>
        refine ⟨b.length, Nat.le_refl _, rfl, HR.out.alloc _, (World.rowIs_made W0 (.int .i64 0) _ _).congr fun j hj => ?_, HB.out.alloc HB.out.size _⟩
        rw [rv_top a b i j hj]
      case round =>
        have hBs := HB.out.size
        clear HB HR
        obtain ⟨m, hm, rfl, hr1, hr2, hbel⟩ := hrel
        have R1 := Lib.hid hr1
        have R2 := Lib.hid hr2
        have HB := Lib.hid hbel
        clear hr1 hr2 hbel
        rcases m with _ | k
        · simp only [Int.natCast_zero, Int.zero_sub]
          have h1 : decide ((0 : Int) ≤ -1) = false := by decide
          go_wp2
          go_roundw
          case rel => exact ⟨i, _, by omega, rfl, rfl, hBs, R2.out, HB.out⟩
          case measure => simp [intOf]
        · have e1 : ((k + 1 : Nat) : Int) - 1 = (k : Int) := by omega
          rw [e1]
          clear e1
          obtain ⟨ba, oa, rfl, hba, hx1, hx2⟩ := HP.out i hn
          obtain ⟨bb, ob, rfl, hbb, hy1, hy2⟩ := HQ.out k hm
          rw [← HB.out.cell (p := ⟨ba, _, none⟩) hba] at hx1 hx2
          rw [← HB.out.cell (p := ⟨bb, _, none⟩) hbb] at hy1 hy2
          have hst := lAt_step a b i k hn hm
          have hn' := run_ptEql
          have q1 : (0 : Int) ≤ (k : Int) + 1 := by omega
          have q2 : (k : Int) + 1 < (b.length : Int) + 1 := by omega
          have q3 : (0 : Int) ≤ (k : Int) := by omega
          have q4 : (k : Int) < (b.length : Int) + 1 := by omega
          have hle := lcs_le (a.drop (i + 1)) (b.drop (k + 1))
          simp only [List.length_drop] at hle
          by_cases hs : ptEq (px a i, py a i) (px b k, py b k) = true
          · rw [if_pos hs] at hst
            have HS := Lib.hid hst
            clear hst
            go_wp2
            go_quiet (fail)
            clear hn' hx1 hx2 hy1 hy2
            have R1' : Hid (Nums (wr.drewN nq) B (b.length + 1) (rv a b (i + 1) 0)) := R1.out.of_block rfl
            have R2' : Hid (Nums (wr.drewN nq) W0.heap.size (b.length + 1) (rv a b i (k + 1))) := R2.out.of_block rfl
            have HB' : Hid (Below w.heap.size w (wr.drewN nq)) := below_drewN HB.out nq
            generalize wr.drewN nq = W1 at R1' R2' HB' ⊢
            have d1 := R1'.out.cell (i := k + 1) (by omega)
            rw [rv_all] at d1
            have d2 := R2'.out.cell (i := k) (by omega)
            have f2 := R2'.out.frozen k
            generalize hX : lcs (a.drop (i + 1)) (b.drop (k + 1)) = X at *
            clear hX
            go_wp2
            go_roundw
            case rel => exact ⟨k, by omega, rfl, R1'.out.setOther (by simp; omega) _, (R2'.out.set k _).congr fun j _ => rv_set a b i k j (by rw [HS.out]; rfl), HB'.out.setCell (by simp; omega) _⟩
            case measure => simp [intOf]
          · rw [if_neg hs] at hst
            have hs' : ptEq (px a i, py a i) (px b k, py b k) = false := by simpa using hs
            have HS := Lib.hid hst
            clear hst hs
            go_wp2
            go_quiet (fail)
            clear hn' hx1 hx2 hy1 hy2
            have R1' : Hid (Nums (wr.drewN nq) B (b.length + 1) (rv a b (i + 1) 0)) := R1.out.of_block rfl
            have R2' : Hid (Nums (wr.drewN nq) W0.heap.size (b.length + 1) (rv a b i (k + 1))) := R2.out.of_block rfl
            have HB' : Hid (Below w.heap.size w (wr.drewN nq)) := below_drewN HB.out nq
            generalize wr.drewN nq = W1 at R1' R2' HB' ⊢
            have d1 := R1'.out.cell (i := k) (by omega)
            rw [rv_all] at d1
            have d2 := R2'.out.cell (i := k) (by omega)
            have d3 := R2'.out.cell (i := k + 1) (by omega)
            simp only [rv, Nat.le_refl, if_true] at d3
            have f2 := R2'.out.frozen k
            generalize hX : lcs (a.drop (i + 1)) (b.drop k) = X at *
            generalize hY : lcs (a.drop i) (b.drop (k + 1)) = Y at *
            clear hX hY
            have w2 : IntKind.i64.wrap ((k : Int) + 1) = (k : Int) + 1 := IntWalk.i64_in _ (by omega)
            have t2 : ((k : Int) + 1).toNat = k + 1 := by omega
            go_wp2
            refine wp_region_still_tail 13 (by kernel_rfl) (by kernel_rfl) ?_
            simp only [List.take_succ_cons, List.take_zero, List.drop_succ_cons, List.drop_zero]
            repeat (first | still_step | still_call (l1Max_any _ _ _))
            try refine wpStill_nil ?_
            change wpList _ _ _ _ _ W1.drew
            go_wp2
            go_roundw
            case rel => exact ⟨k, by omega, rfl, (R1'.out.setOther (by simp; omega) _).drew, ((R2'.out.set k _).congr fun j _ => rv_set a b i k j (by rw [HS.out]; omega)).drew, (HB'.out.setCell (by simp; omega) _).drew⟩
            case measure => simp [intOf]
set_option maxHeartbeats 1000000 in
theorem specSeqLong_any (pa pb : Option Addr) (ca cb : Nat) (a b : List (Int × Int)) (w : World) (hp : PtsAt w pa a) (hq : PtsAt w pb b) (hl : a.length ≤ 1048576) (hl' : b.length ≤ 1048576) :
    Calls Try.prog 18 #[.slice pa a.length ca, .slice pb b.length cb] w fun e w' => e = .returned (.int .i64 (longOf a b)) ∧ Below w.heap.size w w' := by
  have HP := Lib.hid hp
  have HQ := Lib.hid hq
  clear hp hq
  go_enter Try.func18, Try.ntmps18
  go_wp2_with fail
  refine (l5Few_any _ _ _ _ _ _ _ hl hl').mono ?_
  rintro e w1 ⟨rfl, rfl⟩
  cases hf : fewB [a.length, b.length] with
  | false =>
    have HF := Lib.hid (longOf_many hf)
    clear hf
    go_wp2
    go_ret
    exact ⟨by rw [HF.out]; rfl, Below.refl _ _⟩
  | true =>
    obtain ⟨h1, h2⟩ := fewB_two hf
    have HF := Lib.hid (longOf_few hf)
    clear hf
    go_wp2_with fail
    refine (l5Long_any _ _ _ _ _ _ _ HP.out HQ.out h1 h2).mono ?_
    rintro e w1 ⟨rfl, hb⟩
    have HB := Lib.hid hb
    clear hb
    go_wp2
    go_ret
    exact ⟨by rw [HF.out]; rfl, HB.out⟩
end Go.Proofs.Ytaefibefagbheaa
