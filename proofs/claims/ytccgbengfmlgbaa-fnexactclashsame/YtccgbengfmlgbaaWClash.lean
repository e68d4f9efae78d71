/- Proved here: contracts of the small functions over clashes: size, copy, comparison; lists of at most 1,048,576 clashes. -/
import Derived.Test.YtccgbengfmlgbaaWTagEq
import Derived.Test.YtccgbengfmlgbaaWFeat
import Derived.StillTailTactics
namespace Go.Proofs.Ytccgbengfmlgbaa
set_option linter.unusedVariables false
open Go.ChangeShapes Go.WideShapes Go.ChangeAt Go.RowKit

set_option maxHeartbeats 400000 in
theorem toClash_any (x y : ByteArray) (w : World) :
    Calls Try.prog 13 #[.agg #[.string x, .string y]] w fun e w' => e = .returned (.agg #[.string x, .string y]) ∧ Below w.heap.size w w' := by
  go_enter Try.func13, Try.ntmps13
  go_wp2
  refine bodyPost_ret (v := .agg #[.string x, .string y]) (by simp [results, Try.results13, go_sem]) rfl ⟨rfl, ?_⟩
  exact (((Below.refl _ _).alloc (Nat.le_refl _) _).alloc (by simp) _).alloc (by simp; omega) _

set_option maxHeartbeats 400000 in
theorem eqClash_any (x y a b : ByteArray) (w : World) :
    Calls Try.prog 16 #[.agg #[.string x, .string y], .agg #[.string a, .string b]] w fun e w' => e = .returned (.bool (tgEq (x, y) (a, b))) ∧ Below w.heap.size w w' := by
  have e1 := bytes_beq x a
  have e2 := bytes_beq y b
  by_cases h1 : x = a
  · rw [decide_eq_true h1] at e1
    by_cases h2 : y = b
    · rw [decide_eq_true h2] at e2
      have HS : Hid (tgEq (x, y) (a, b) = true) := by simp [Hid, tgEq, h1, h2]
      clear h1 h2
      go_enter Try.func16, Try.ntmps16
      go_wp2
      go_ret
      exact ⟨by rw [HS.out]; rfl, ((Below.refl _ _).alloc (Nat.le_refl _) _).alloc (by simp) _⟩
    · rw [decide_eq_false h2] at e2
      have HS : Hid (tgEq (x, y) (a, b) = false) := by simp [Hid, tgEq, h2]
      clear h1 h2
      go_enter Try.func16, Try.ntmps16
      go_wp2
      go_ret
      exact ⟨by rw [HS.out]; rfl, ((Below.refl _ _).alloc (Nat.le_refl _) _).alloc (by simp) _⟩
  · rw [decide_eq_false h1] at e1
    have HS : Hid (tgEq (x, y) (a, b) = false) := by simp [Hid, tgEq, h1]
    clear h1 e2
    go_enter Try.func16, Try.ntmps16
    go_wp2
    go_ret
    exact ⟨by rw [HS.out]; rfl, ((Below.refl _ _).alloc (Nat.le_refl _) _).alloc (by simp) _⟩

theorem run_clEql (x y a b : ByteArray) (w : World) : (binOp .eql 33 (.agg #[.string x, .string y]) (.agg #[.string a, .string b])).run Try.prog w = .ok (.bool (tgEq (x, y) (a, b))) w := by
  have u3 := Try.underlying9
  have a3 := Try.isAgg9
  have z3 := Try.sizeOf9
  have hS : Try.prog.underlying 33 = some (.struct (Try.prog.fieldsOf 33)) := by kernel_rfl
  have hp : Try.prog.stoodInHeld 33 = false := by kernel_rfl
  rw [run_eql_struct, show (10000 : Nat) = 9999 + 1 from rfl, run_equalIn_agg w 9999 33 _ _ hS hp]
  simp only [Program.fieldsOf, Try.underlying33]
  go_simp
  have i1 := toList_inj x a
  have i2 := toList_inj y b
  by_cases h1 : x = a <;> by_cases h2 : y = b <;> simp_all [tgEq]

theorem run_clNeq (x y a b : ByteArray) (w : World) : (binOp .neq 33 (.agg #[.string x, .string y]) (.agg #[.string a, .string b])).run Try.prog w = .ok (.bool (!tgEq (x, y) (a, b))) w := by
  have u3 := Try.underlying9
  have a3 := Try.isAgg9
  have z3 := Try.sizeOf9
  have hS : Try.prog.underlying 33 = some (.struct (Try.prog.fieldsOf 33)) := by kernel_rfl
  have hp : Try.prog.stoodInHeld 33 = false := by kernel_rfl
  rw [run_neq_struct, show (10000 : Nat) = 9999 + 1 from rfl, run_equalIn_agg w 9999 33 _ _ hS hp]
  simp only [Program.fieldsOf, Try.underlying33]
  go_simp
  have i1 := toList_inj x a
  have i2 := toList_inj y b
  by_cases h1 : x = a <;> by_cases h2 : y = b <;> simp_all [tgEq]

theorem cellsClash : Try.prog.cellsOf 33 = 2 := by kernel_rfl

theorem cellsLClash : Try.prog.cellsOf 32 = 2 := by kernel_rfl

theorem infoClash : (Try.prog.info? 33).map (fun i => (i.zero, i.size, i.bytes)) = some (some (.agg #[.string .empty, .string .empty]), 2, 32) := by kernel_rfl

/-- what 'toTagS' answers: a row of its own -/
def NewClashes (w : World) (ts : List Tg) (e : Ending) (w' : World) : Prop :=
  ∃ b, e = .returned (.slice (some ⟨b, 0, none⟩) ts.length ts.length) ∧ w'.rowIs b 33 (ts.length * 2) (tagCell ts) ∧ w.heap.size ≤ b ∧ Below w.heap.size w w'

set_option maxHeartbeats 400000 in
theorem toClashS_any (a : Option Addr) (cap : Nat) (ts : List Tg) (w : World) (hp : TagsAt w a ts) (hlen : ts.length ≤ 1048576) :
    Calls Try.prog 7 #[.slice a ts.length cap] w (NewClashes w ts) := by
  obtain ⟨i0, hi, hz0, hz1, hz2⟩ := info_parts infoClash
  have hmk : ∀ u : World, (Instr.makeSlice 25 (.int .i64 (ts.length : Int)) (.int .i64 (ts.length : Int))).run Try.prog u =
      .ok (.slice (some ⟨u.heap.size, 0, none⟩) ts.length ts.length) (u.alloc (.cells (madeCells #[.string .empty, .string .empty] (ts.length * 2)) 33)) := fun u => by
    have h := run_make (P := Try.prog) u 25 33 i0 (.agg #[.string .empty, .string .empty]) Try.underlying25 hi hz0 .i64 .i64 (ts.length : Int) (ts.length : Int) (by omega) (Int.le_refl _) (by rw [hz2]; omega) (by omega)
    simpa [hz1, Value.cells] using h
  have H0 := Lib.hid hp
  clear hp hz0 hz1 hz2 hi
  go_enter Try.func7, Try.ntmps7
  go_wp2
  clear hmk
  go_loopw [4] (fun i wr => ∃ k : Nat, k ≤ ts.length ∧ i = .int .i64 k ∧ wr.rowIs w.heap.size 33 (ts.length * 2) (filledT ts k) ∧ Below w.heap.size w wr) (fun i _ => ts.length - (intOf i).toNat)
  case atStart =>
    refine ⟨0, Nat.zero_le _, rfl, (made_rowT w ts.length _).congr fun i _ => ?_, (Below.refl _ _).alloc (Nat.le_refl _) _⟩
    unfold filledT
    rw [if_neg (by omega)]
  case round =>
    obtain ⟨k, hk, rfl, hrow, hbel⟩ := hrel
    by_cases hlt : k < ts.length
    · obtain ⟨b, off, rfl, hb, hc1, hc2⟩ := H0.out k hlt
      rw [← hbel.cell (p := ⟨b, _, none⟩) hb] at hc1 hc2
      have HR := Lib.hid hrow
      have HB := Lib.hid hbel
      clear hrow hbel
      have hsz := HB.out.size
      go_wp2_with fail
      refine (toClash_any _ _ _).mono ?_
      rintro e w1 ⟨rfl, hb1⟩
      have hrow1 : w1.rowIs w.heap.size 33 (ts.length * 2) (filledT ts k) := HR.out.of_block (hb1.block _ HR.out.lt)
      have hf1 := hrow1.frozen (k * 2)
      have hf2 := hrow1.frozen (k * 2 + 1)
      have hd1 := hrow1.cell (i := k * 2) (by omega)
      have hd2 := hrow1.cell (i := k * 2 + 1) (by omega)
      have HR1 := Lib.hid hrow1
      have HB1 := Lib.hid hb1
      clear hrow1 hb1
      go_wp2
      go_roundw
      case rel =>
        refine ⟨k + 1, by omega, by go_num, ((HR1.out.set (k * 2) _).set (k * 2 + 1) _).congr fun j _ => filledT_step ts k j, ?_⟩
        exact ((HB.out.trans (HB1.out.mono hsz)).setCell (Nat.le_refl _) _).setCell (Nat.le_refl _) _
      case measure => simp [intOf]; omega
    · have HR := Lib.hid hrow
      have HB := Lib.hid hbel
      clear hrow hbel
      go_wp2
      go_ret
      obtain rfl : k = ts.length := by omega
      exact ⟨w.heap.size, rfl, filledT_own ts _ _ _ HR.out, Nat.le_refl _, HB.out⟩

set_option maxHeartbeats 400000 in
theorem clashSameS_any (a a' : Option Addr) (cap cap' : Nat) (ts us : List Tg) (w : World) (hp : TagsAt w a ts) (hq : TagsAt w a' us) (hl : ts.length ≤ 1048576) (hl' : us.length ≤ 1048576) :
    Calls Try.prog 10 #[.slice a ts.length cap, .slice a' us.length cap'] w fun e w' => e = .returned (.bool (tgsEq ts us)) ∧ ∃ n, w' = w.drewN n := by
  have HP := Lib.hid hp
  have HQ := Lib.hid hq
  clear hp hq
  by_cases he : ts.length = us.length
  · have HE := Lib.hid he
    rw [← he]
    have h1 : ((ts.length : Int) != (ts.length : Int)) = false := by simp
    clear he
    go_enter Try.func10, Try.ntmps10
    go_wp2
    go_loopw [5] (fun i wr => ∃ k n : Nat, k ≤ ts.length ∧ i = .int .i64 k ∧ wr = w.drewN n ∧ ∀ j, j < k → tk ts j = tk us j ∧ tv ts j = tv us j) (fun i _ => ts.length - (intOf i).toNat)
    case atStart => exact ⟨0, 0, Nat.zero_le _, rfl, rfl, fun j h => absurd h (Nat.not_lt_zero _)⟩
    case round =>
      obtain ⟨k, n, hk, rfl, rfl, hall⟩ := hrel
      have HA := Lib.hid hall
      clear hall
      by_cases hlt : k < ts.length
      · obtain ⟨b, off, rfl, hb, hc1, hc2⟩ := HP.out k hlt
        obtain ⟨b', off', rfl, hb', hd1, hd2⟩ := HQ.out k (by have := HE.out; omega)
        have hn := run_clNeq
        by_cases hs : tk ts k = tk us k ∧ tv ts k = tv us k
        · have hb1 : tgEq (tk ts k, tv ts k) (tk us k, tv us k) = true := by simp [tgEq, hs]
          have HS := Lib.hid hs
          clear hs
          go_wp2
          go_quiet (fail)
          go_wp2
          go_roundw
          case rel => exact ⟨k + 1, _, by omega, by go_num, rfl, fun j hj => by by_cases e : j = k; (subst e; exact HS.out); exact HA.out j (by omega)⟩
          case measure => simp [intOf]; omega
        · have hb1 : tgEq (tk ts k, tv ts k) (tk us k, tv us k) = false := by simpa [tgEq] using hs
          have HS := Lib.hid (tgsEq_ne hs)
          clear hs
          go_wp2
          go_quiet (fail)
          go_wp2
          go_ret
          exact ⟨by rw [HS.out]; rfl, n + nq, by rw [World.drewN_drewN]⟩
      · obtain rfl : k = ts.length := by omega
        have HT := Lib.hid (tgsEq_of HE.out HA.out)
        go_wp2
        go_ret
        exact ⟨by rw [HT.out]; rfl, n, rfl⟩
  · have h1 : ((ts.length : Int) != (us.length : Int)) = true := by simp; omega
    have HT := Lib.hid (tgsEq_len he)
    clear he
    go_enter Try.func10, Try.ntmps10
    go_wp2
    go_ret
    exact ⟨by rw [HT.out]; rfl, 0, rfl⟩

set_option maxHeartbeats 400000 in
theorem slicesEqualC_any (a a' : Option Addr) (cap cap' : Nat) (ts us : List Tg) (w : World) (hp : TagsAt w a ts) (hq : TagsAt w a' us) (hl : ts.length ≤ 1048576) (hl' : us.length ≤ 1048576) :
    Calls Try.prog 17 #[.slice a ts.length cap, .slice a' us.length cap'] w fun e w' => e = .returned (.bool (tgsEq ts us)) ∧ ∃ n, w' = w.drewN n := by
  have HP := Lib.hid hp
  have HQ := Lib.hid hq
  clear hp hq
  by_cases he : ts.length = us.length
  · have HE := Lib.hid he
    rw [← he]
    have h1 : ((ts.length : Int) != (ts.length : Int)) = false := by simp
    clear he
    go_enter Try.func17, Try.ntmps17
    go_wp2
    go_loopw [5, 13] (fun _ i wr => ∃ k n : Nat, k ≤ ts.length ∧ i = .int .i64 k ∧ wr = w.drewN n ∧ ∀ j, j < k → tk ts j = tk us j ∧ tv ts j = tv us j) (fun _ i _ => ts.length - (intOf i).toNat)
    case atStart => exact ⟨0, 0, Nat.zero_le _, rfl, rfl, fun j h => absurd h (Nat.not_lt_zero _)⟩
    case round =>
      obtain ⟨k, n, hk, rfl, rfl, hall⟩ := hrel
      have HA := Lib.hid hall
      clear hall
      by_cases hlt : k < ts.length
      · obtain ⟨b, off, rfl, hb, hc1, hc2⟩ := HP.out k hlt
        obtain ⟨b', off', rfl, hb', hd1, hd2⟩ := HQ.out k (by have := HE.out; omega)
        have hn := run_clNeq
        by_cases hs : tk ts k = tk us k ∧ tv ts k = tv us k
        · have hb1 : tgEq (tk ts k, tv ts k) (tk us k, tv us k) = true := by simp [tgEq, hs]
          have HS := Lib.hid hs
          clear hs
          go_wp2
          go_quiet (fail)
          go_wp2
          go_roundw
          case rel => exact ⟨k + 1, _, by omega, by go_num, rfl, fun j hj => by by_cases e : j = k; (subst e; exact HS.out); exact HA.out j (by omega)⟩
          case measure => simp [intOf]; omega
        · have hb1 : tgEq (tk ts k, tv ts k) (tk us k, tv us k) = false := by simpa [tgEq] using hs
          have HS := Lib.hid (tgsEq_ne hs)
          clear hs
          go_wp2
          go_quiet (fail)
          go_wp2
          go_ret
          exact ⟨by rw [HS.out]; rfl, n + nq, by rw [World.drewN_drewN]⟩
      · obtain rfl : k = ts.length := by omega
        have HT := Lib.hid (tgsEq_of HE.out HA.out)
        go_wp2
        go_ret
        exact ⟨by rw [HT.out]; rfl, n, rfl⟩
  · have h1 : ((ts.length : Int) != (us.length : Int)) = true := by simp; omega
    have HT := Lib.hid (tgsEq_len he)
    clear he
    go_enter Try.func17, Try.ntmps17
    go_wp2
    go_ret
    exact ⟨by rw [HT.out]; rfl, 0, rfl⟩

set_option maxRecDepth 100000 in
set_option maxHeartbeats 1000000 in
theorem eqClashS_any (a a' : Option Addr) (cap cap' : Nat) (ts us : List Tg) (w : World) (hp : TagsAt w a ts) (hq : TagsAt w a' us) (hl : ts.length ≤ 1048576) (hl' : us.length ≤ 1048576) :
    Calls Try.prog 9 #[.slice a ts.length cap, .slice a' us.length cap'] w fun e w' => e = .returned (.bool (tgsEq ts us)) ∧ Below w.heap.size w w' := by
  have HP := Lib.hid hp
  have HQ := Lib.hid hq
  clear hp hq
  by_cases he : ts.length = us.length
  · have HE := Lib.hid he
    rw [← he]
    have h1 : ((ts.length : Int) != (ts.length : Int)) = false := by simp
    clear he
    go_enter Try.func9, Try.ntmps9
    go_wp2
    go_loopw [5] (fun i wr => ∃ k : Nat, k ≤ ts.length ∧ i = .int .i64 k ∧ Below w.heap.size w wr ∧ ∀ j, j < k → tk ts j = tk us j ∧ tv ts j = tv us j) (fun i _ => ts.length - (intOf i).toNat)
    case atStart => exact ⟨0, Nat.zero_le _, rfl, Below.refl _ _, fun j h => absurd h (Nat.not_lt_zero _)⟩
    case round =>
      obtain ⟨k, hk, rfl, hbel, hall⟩ := hrel
      have HA := Lib.hid hall
      have HB := Lib.hid hbel
      have hsz := hbel.size
      clear hall
      by_cases hlt : k < ts.length
      · obtain ⟨b, off, rfl, hb, hc1, hc2⟩ := HP.out k hlt
        obtain ⟨b', off', rfl, hb', hd1, hd2⟩ := HQ.out k (by have := HE.out; omega)
        rw [← hbel.cell (p := ⟨b, _, none⟩) hb] at hc1 hc2
        rw [← hbel.cell (p := ⟨b', _, none⟩) hb'] at hd1 hd2
        clear hbel
        by_cases hs : tk ts k = tk us k ∧ tv ts k = tv us k
        · have hb1 : tgEq (tk ts k, tv ts k) (tk us k, tv us k) = true := by simp [tgEq, hs]
          have HS := Lib.hid hs
          clear hs
          go_wp2
          go_still_tail 8, (by kernel_rfl)
          go_wp2_with fail
          refine (eqClash_any _ _ _ _ _).mono ?_
          rintro e w1 ⟨rfl, hb2⟩
          have HB2 := Lib.hid hb2
          clear hb2
          go_wp2
          go_roundw
          case rel => exact ⟨k + 1, by omega, by go_num, HB.out.drew.trans (HB2.out.mono hsz), fun j hj => by by_cases e : j = k; (subst e; exact HS.out); exact HA.out j (by omega)⟩
          case measure => simp [intOf]; omega
        · have hb1 : tgEq (tk ts k, tv ts k) (tk us k, tv us k) = false := by simpa [tgEq] using hs
          have HS := Lib.hid (tgsEq_ne hs)
          clear hs
          go_wp2
          go_still_tail 8, (by kernel_rfl)
          go_wp2_with fail
          refine (eqClash_any _ _ _ _ _).mono ?_
          rintro e w1 ⟨rfl, hb2⟩
          have HB2 := Lib.hid hb2
          clear hb2
          go_wp2
          go_ret
          exact ⟨by rw [HS.out]; rfl, HB.out.drew.trans (HB2.out.mono hsz)⟩
      · obtain rfl : k = ts.length := by omega
        have HT := Lib.hid (tgsEq_of HE.out HA.out)
        clear hbel
        go_wp2
        go_ret
        exact ⟨by rw [HT.out]; rfl, HB.out⟩
  · have h1 : ((ts.length : Int) != (us.length : Int)) = true := by simp; omega
    have HT := Lib.hid (tgsEq_len he)
    clear he
    go_enter Try.func9, Try.ntmps9
    go_wp2
    go_ret
    exact ⟨by rw [HT.out]; rfl, Below.refl _ _⟩

set_option maxHeartbeats 1000000 in
theorem szClash_any (x y : ByteArray) (left : Int) (w : World) (h0 : 0 ≤ left) (h1 : left ≤ 1048576) (hx : x.size ≤ 9223372036854775807) (hy : y.size ≤ 9223372036854775807) :
    Calls Try.prog 12 #[.agg #[.string x, .string y], .int .i64 left] w fun e w' => (∃ r, e = .returned (.int .i64 r) ∧ SzTag x y left r) ∧ Below w.heap.size w w' := by
  by_cases g1 : (x.size : Int) ≤ left
  · by_cases g2 : (y.size : Int) ≤ left - x.size
    · go_enter Try.func12, Try.ntmps12
      go_wp2
      go_ret
      exact ⟨⟨_, rfl, .inr ⟨by omega, by omega, by omega, by omega⟩⟩, (Below.refl _ _).alloc (Nat.le_refl _) _⟩
    · go_enter Try.func12, Try.ntmps12
      go_wp2
      go_ret
      exact ⟨⟨_, rfl, .inl rfl⟩, (Below.refl _ _).alloc (Nat.le_refl _) _⟩
  · go_enter Try.func12, Try.ntmps12
    go_wp2
    go_ret
    exact ⟨⟨_, rfl, .inl rfl⟩, (Below.refl _ _).alloc (Nat.le_refl _) _⟩

set_option maxHeartbeats 1000000 in
theorem szClashS_any (a : Option Addr) (cap : Nat) (ts : List Tg) (left : Int) (w : World) (hp : TagsAt w a ts) (hm : ts.length ≤ 9223372036854775807) (hl : TagsLen ts 9223372036854775807) (h0 : 0 ≤ left) (h1 : left ≤ 1048576) :
    Calls Try.prog 5 #[.slice a ts.length cap, .int .i64 left] w fun e w' => (∃ r, e = .returned (.int .i64 r) ∧ SzTags ts left r) ∧ Below w.heap.size w w' := by
  have HP := Lib.hid hp
  have HL := Lib.hid hl
  clear hp hl
  by_cases g1 : (ts.length : Int) ≤ left
  · go_enter Try.func5, Try.ntmps5
    go_wp2
    go_loopw [1, 5] (fun l i wr => ∃ (k : Nat) (r : Int), k ≤ ts.length ∧ i = .int .i64 k ∧ l = .int .i64 r ∧ 0 ≤ r ∧ r ≤ left ∧ Below w.heap.size w wr ∧ ∀ j, j < k → ((tk ts j).size : Int) ≤ left ∧ ((tv ts j).size : Int) ≤ left) (fun _ i _ => ts.length - (intOf i).toNat)
    case atStart => exact ⟨0, left - ts.length, Nat.zero_le _, rfl, by simp, by omega, by omega, Below.refl _ _, fun j h => absurd h (Nat.not_lt_zero _)⟩
    case round =>
      obtain ⟨k, r, hk, rfl, rfl, hr0, hr1, hbel, hall⟩ := hrel
      have HA := Lib.hid hall
      have HB := Lib.hid hbel
      have hsz := hbel.size
      clear hall
      by_cases hlt : k < ts.length
      · obtain ⟨b, off, rfl, hb, hc1, hc2⟩ := HP.out k hlt
        rw [← hbel.cell (p := ⟨b, _, none⟩) hb] at hc1 hc2
        clear hbel
        go_wp2_with fail
        refine (szClash_any _ _ _ _ hr0 (by omega) (by have := (HL.out k hlt).1; omega) (by have := (HL.out k hlt).2; omega)).mono ?_
        rintro e w1 ⟨⟨r', rfl, hs⟩, hb1⟩
        have HB1 := Lib.hid hb1
        clear hb1
        rcases hs with rfl | ⟨g2, g3, g4, g5⟩
        · go_wp2
          go_ret
          exact ⟨⟨_, rfl, .inl rfl⟩, HB.out.trans (HB1.out.mono hsz)⟩
        · go_wp2
          go_roundw
          case rel => exact ⟨k + 1, r', by omega, by go_num, rfl, g2, by omega, HB.out.trans (HB1.out.mono hsz), fun j hj => by by_cases e : j = k; (subst e; exact ⟨by omega, by omega⟩); exact HA.out j (by omega)⟩
          case measure => simp [intOf]; omega
      · obtain rfl : k = ts.length := by omega
        clear hbel
        go_wp2
        go_ret
        exact ⟨⟨_, rfl, .inr ⟨hr0, hr1, g1, HA.out⟩⟩, HB.out⟩
  · go_enter Try.func5, Try.ntmps5
    go_wp2
    go_ret
    exact ⟨⟨_, rfl, .inl rfl⟩, Below.refl _ _⟩

end Go.Proofs.Ytccgbengfmlgbaa
