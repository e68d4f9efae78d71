/- Proved here: contracts of the small functions over rows of numbers: size, copy, comparison; rows of at most 1,048,576 numbers. -/
import Derived.Test.YtdchfologicbeaaGreatWBase
import Derived.StillTailTactics
namespace Go.Proofs.YtdchfologicbeaaGreat
set_option linter.unusedVariables false
open Go.ChangeShapes Go.WideShapes Go.ChangeAt Go.RowKit

/-- a number of a row -/
def ix (is : List Int) (i : Nat) : Int := is.getD i 0

theorem ix_get {is : List Int} {i : Nat} (h : i < is.length) : ix is i = is[i] := by simp [ix, h]

/-- a slice that reads as numbers -/
def IntsAt (w : World) (a : Option Addr) (is : List Int) : Prop :=
  ∀ i, i < is.length → ∃ b off, a = some ⟨b, off, none⟩ ∧ b < w.heap.size ∧ w.cell? ⟨b, off + i, none⟩ = some (.int .i64 (ix is i))

theorem IntsAt.nil (w : World) (a : Option Addr) : IntsAt w a [] := fun _ h => absurd h (Nat.not_lt_zero _)

theorem IntsAt.below {w w' : World} {a : Option Addr} {is : List Int} (h : IntsAt w a is) (hb : Below w.heap.size w w') : IntsAt w' a is := by
  intro i hi
  obtain ⟨b, off, rfl, hlt, h1⟩ := h i hi
  exact ⟨b, off, rfl, Nat.lt_of_lt_of_le hlt hb.size, by rw [hb.cell (p := ⟨b, _, none⟩) hlt]; exact h1⟩

/-- two rows of numbers are one -/
def isEq (is js : List Int) : Bool := decide (is = js)

theorem isEq_of {is js : List Int} (hl : is.length = js.length) (h : ∀ j, j < is.length → ix is j = ix js j) : isEq is js = true := by
  unfold isEq
  rw [decide_eq_true_iff]
  refine List.ext_getElem hl fun i h1 h2 => ?_
  have := h i h1
  rwa [ix_get h1, ix_get h2] at this

theorem isEq_ne {is js : List Int} {j : Nat} (h : ¬ ix is j = ix js j) : isEq is js = false := by
  unfold isEq
  rw [decide_eq_false_iff_not]
  rintro rfl
  exact h rfl

theorem isEq_len {is js : List Int} (h : is.length ≠ js.length) : isEq is js = false := by
  unfold isEq
  rw [decide_eq_false_iff_not]
  rintro rfl
  exact h rfl

theorem infoInt : (Tryz.prog.info? 3).map (fun i => (i.zero, i.size, i.bytes)) = some (some (.int .i64 0), 1, 8) := by kernel_rfl

/-- a numbers' cell by its place -/
def intCell (is : List Int) (j : Nat) : Value := .int .i64 (ix is j)

/-- how far a row is filled -/
def filledI (is : List Int) (k j : Nat) : Value := if j < k then intCell is j else .int .i64 0

theorem filledI_step (is : List Int) (k j : Nat) :
    (if j = k then .int .i64 (ix is k) else filledI is k j) = filledI is (k + 1) j := by
  unfold filledI intCell
  by_cases h2 : j = k
  · subst h2
    rw [if_pos rfl, if_pos (by omega)]
  · rw [if_neg h2]
    by_cases h3 : j < k
    · rw [if_pos h3, if_pos (by omega)]
    · rw [if_neg h3, if_neg (by omega)]

theorem IntsAt.of_row {is : List Int} {w : World} {b : Nat} {t : TypeId} (h : w.rowIs b t is.length (intCell is)) : IntsAt w (some ⟨b, 0, none⟩) is := by
  intro i hi
  refine ⟨b, 0, rfl, h.lt, ?_⟩
  have := h.cell (i := i) hi
  rw [Nat.zero_add, this]
  rfl

/-- what 'toIntS' answers: a row of its own -/
def NewInts (w : World) (is : List Int) (e : Ending) (w' : World) : Prop :=
  ∃ b, e = .returned (.slice (some ⟨b, 0, none⟩) is.length is.length) ∧ w'.rowIs b 3 is.length (intCell is) ∧ w.heap.size ≤ b ∧ Below w.heap.size w w'

set_option maxHeartbeats 400000 in
theorem toIntS_any (a : Option Addr) (cap : Nat) (is : List Int) (w : World) (hp : IntsAt w a is) (hlen : is.length ≤ 1048576) :
    Calls Tryz.prog 201 #[.slice a is.length cap] w (NewInts w is) := by
  obtain ⟨i0, hi, hz0, hz1, hz2⟩ := info_parts infoInt
  have hmk : ∀ u : World, (Instr.makeSlice 81 (.int .i64 (is.length : Int)) (.int .i64 (is.length : Int))).run Tryz.prog u =
      .ok (.slice (some ⟨u.heap.size, 0, none⟩) is.length is.length) (u.alloc (.cells (madeCells #[.int .i64 0] is.length) 3)) := fun u => by
    have h := run_make (P := Tryz.prog) u 81 3 i0 (.int .i64 0) Tryz.underlying81 hi hz0 .i64 .i64 (is.length : Int) (is.length : Int) (by omega) (Int.le_refl _) (by rw [hz2]; omega) (by omega)
    simpa [hz1, Value.cells] using h
  have H0 := Lib.hid hp
  clear hp hz0 hz1 hz2 hi
  go_enter Tryz.func201, Tryz.ntmps201
  go_wp2
  clear hmk
  go_loopw [4] (fun i wr => ∃ k : Nat, k ≤ is.length ∧ i = .int .i64 k ∧ wr.rowIs w.heap.size 3 is.length (filledI is k) ∧ Below w.heap.size w wr) (fun i _ => is.length - (intOf i).toNat)
  case atStart =>
    refine ⟨0, Nat.zero_le _, rfl, (World.rowIs_made w _ is.length _).congr fun i _ => ?_, (Below.refl _ _).alloc (Nat.le_refl _) _⟩
    unfold filledI
    rw [if_neg (by omega)]
  case round =>
    obtain ⟨k, hk, rfl, hrow, hbel⟩ := hrel
    by_cases hlt : k < is.length
    · obtain ⟨b, off, rfl, hb, hc1⟩ := H0.out k hlt
      rw [← hbel.cell (p := ⟨b, _, none⟩) hb] at hc1
      have hf1 := hrow.frozen k
      have hd1 := hrow.cell (i := k) (by omega)
      have HR := Lib.hid hrow
      have HB := Lib.hid hbel
      clear hrow hbel
      have hsz := HB.out.size
      go_wp2
      go_roundw
      case rel =>
        refine ⟨k + 1, by omega, by go_num, (HR.out.set k _).congr fun j _ => filledI_step is k j, ?_⟩
        exact HB.out.setCell (Nat.le_refl _) _
      case measure => simp [intOf]; omega
    · have HR := Lib.hid hrow
      have HB := Lib.hid hbel
      clear hrow hbel
      go_wp2
      go_ret
      obtain rfl : k = is.length := by omega
      exact ⟨w.heap.size, rfl, HR.out.congr fun j hj => (by unfold filledI; rw [if_pos hj]), Nat.le_refl _, HB.out⟩

theorem szIntS_fits (a : Option Addr) (cap n : Nat) (left : Int) (w : World) (h0 : (n : Int) ≤ left) (h1 : left ≤ 1048576) :
    Calls Tryz.prog 199 #[.slice a n cap, .int .i64 left] w fun e w' => e = .returned (.int .i64 (left - n)) ∧ w = w' := by
  go_enter Tryz.func199, Tryz.ntmps199
  go_wp2
  go_ret
  exact ⟨rfl, rfl⟩

theorem szIntS_over (a : Option Addr) (cap n : Nat) (left : Int) (w : World) (h : 0 ≤ left) (h0 : left < (n : Int)) (h1 : left ≤ 1048576) (hn : n ≤ maxLen) :
    Calls Tryz.prog 199 #[.slice a n cap, .int .i64 left] w fun e w' => e = .returned (.int .i64 (-1)) ∧ w = w' := by
  unfold maxLen at hn
  go_enter Tryz.func199, Tryz.ntmps199
  go_wp2
  go_ret
  exact ⟨rfl, rfl⟩

set_option maxHeartbeats 400000 in
theorem eqIntS_any (a a' : Option Addr) (cap cap' : Nat) (is js : List Int) (w : World) (hp : IntsAt w a is) (hq : IntsAt w a' js) (hl : is.length ≤ 1048576) (hl' : js.length ≤ 1048576) :
    Calls Tryz.prog 51 #[.slice a is.length cap, .slice a' js.length cap'] w fun e w' => e = .returned (.bool (isEq is js)) ∧ ∃ n, w' = w.drewN n := by
  have HP := Lib.hid hp
  have HQ := Lib.hid hq
  clear hp hq
  by_cases he : is.length = js.length
  · have HE := Lib.hid he
    rw [← he]
    have h1 : ((is.length : Int) != (is.length : Int)) = false := by simp
    clear he
    go_enter Tryz.func51, Tryz.ntmps51
    go_wp2
    go_loopw [5] (fun i wr => ∃ k n : Nat, k ≤ is.length ∧ i = .int .i64 k ∧ wr = w.drewN n ∧ ∀ j, j < k → ix is j = ix js j) (fun i _ => is.length - (intOf i).toNat)
    case atStart => exact ⟨0, 0, Nat.zero_le _, rfl, rfl, fun j h => absurd h (Nat.not_lt_zero _)⟩
    case round =>
      obtain ⟨k, n, hk, rfl, rfl, hall⟩ := hrel
      have HA := Lib.hid hall
      clear hall
      by_cases hlt : k < is.length
      · obtain ⟨b, off, rfl, hb, hc1⟩ := HP.out k hlt
        obtain ⟨b', off', rfl, hb', hd1⟩ := HQ.out k (by have := HE.out; omega)
        by_cases hs : ix is k = ix js k
        · have hb1 : (ix is k != ix js k) = false := by simp [hs]
          have HS := Lib.hid hs
          clear hs
          go_wp2
          go_quiet (fail)
          go_wp2
          go_roundw
          case rel => exact ⟨k + 1, _, by omega, by go_num, rfl, fun j hj => by by_cases e : j = k; (subst e; exact HS.out); exact HA.out j (by omega)⟩
          case measure => simp [intOf]; omega
        · have hb1 : (ix is k != ix js k) = true := by simp [hs]
          have HS := Lib.hid (isEq_ne hs)
          clear hs
          go_wp2
          go_quiet (fail)
          go_wp2
          go_ret
          exact ⟨by rw [HS.out]; rfl, n + nq, by rw [World.drewN_drewN]⟩
      · obtain rfl : k = is.length := by omega
        have HT := Lib.hid (isEq_of HE.out HA.out)
        go_wp2
        go_ret
        exact ⟨by rw [HT.out]; rfl, n, rfl⟩
  · have h1 : ((is.length : Int) != (js.length : Int)) = true := by simp; omega
    have HT := Lib.hid (isEq_len he)
    clear he
    go_enter Tryz.func51, Tryz.ntmps51
    go_wp2
    go_ret
    exact ⟨by rw [HT.out]; rfl, 0, rfl⟩

set_option maxHeartbeats 400000 in
theorem l7Ints_any (a a' : Option Addr) (cap cap' : Nat) (is js : List Int) (w : World) (hp : IntsAt w a is) (hq : IntsAt w a' js) (hl : is.length ≤ 1048576) (hl' : js.length ≤ 1048576) :
    Calls Tryz.prog 200 #[.slice a is.length cap, .slice a' js.length cap'] w fun e w' => e = .returned (.bool (isEq is js)) ∧ ∃ n, w' = w.drewN n := by
  have HP := Lib.hid hp
  have HQ := Lib.hid hq
  clear hp hq
  by_cases he : is.length = js.length
  · have HE := Lib.hid he
    rw [← he]
    have h1 : ((is.length : Int) != (is.length : Int)) = false := by simp
    clear he
    go_enter Tryz.func200, Tryz.ntmps200
    go_wp2
    go_loopw [5] (fun i wr => ∃ k n : Nat, k ≤ is.length ∧ i = .int .i64 k ∧ wr = w.drewN n ∧ ∀ j, j < k → ix is j = ix js j) (fun i _ => is.length - (intOf i).toNat)
    case atStart => exact ⟨0, 0, Nat.zero_le _, rfl, rfl, fun j h => absurd h (Nat.not_lt_zero _)⟩
    case round =>
      obtain ⟨k, n, hk, rfl, rfl, hall⟩ := hrel
      have HA := Lib.hid hall
      clear hall
      by_cases hlt : k < is.length
      · obtain ⟨b, off, rfl, hb, hc1⟩ := HP.out k hlt
        obtain ⟨b', off', rfl, hb', hd1⟩ := HQ.out k (by have := HE.out; omega)
        by_cases hs : ix is k = ix js k
        · have hb1 : (ix is k != ix js k) = false := by simp [hs]
          have HS := Lib.hid hs
          clear hs
          go_wp2
          go_quiet (fail)
          go_wp2
          go_roundw
          case rel => exact ⟨k + 1, _, by omega, by go_num, rfl, fun j hj => by by_cases e : j = k; (subst e; exact HS.out); exact HA.out j (by omega)⟩
          case measure => simp [intOf]; omega
        · have hb1 : (ix is k != ix js k) = true := by simp [hs]
          have HS := Lib.hid (isEq_ne hs)
          clear hs
          go_wp2
          go_quiet (fail)
          go_wp2
          go_ret
          exact ⟨by rw [HS.out]; rfl, n + nq, by rw [World.drewN_drewN]⟩
      · obtain rfl : k = is.length := by omega
        have HT := Lib.hid (isEq_of HE.out HA.out)
        go_wp2
        go_ret
        exact ⟨by rw [HT.out]; rfl, n, rfl⟩
  · have h1 : ((is.length : Int) != (js.length : Int)) = true := by simp; omega
    have HT := Lib.hid (isEq_len he)
    clear he
    go_enter Tryz.func200, Tryz.ntmps200
    go_wp2
    go_ret
    exact ⟨by rw [HT.out]; rfl, 0, rfl⟩

set_option maxHeartbeats 400000 in
theorem slicesEqualI_any (a a' : Option Addr) (cap cap' : Nat) (is js : List Int) (w : World) (hp : IntsAt w a is) (hq : IntsAt w a' js) (hl : is.length ≤ 1048576) (hl' : js.length ≤ 1048576) :
    Calls Tryz.prog 219 #[.slice a is.length cap, .slice a' js.length cap'] w fun e w' => e = .returned (.bool (isEq is js)) ∧ ∃ n, w' = w.drewN n := by
  have HP := Lib.hid hp
  have HQ := Lib.hid hq
  clear hp hq
  by_cases he : is.length = js.length
  · have HE := Lib.hid he
    rw [← he]
    have h1 : ((is.length : Int) != (is.length : Int)) = false := by simp
    clear he
    go_enter Tryz.func219, Tryz.ntmps219
    go_wp2
    go_loopw [5, 13] (fun _ i wr => ∃ k n : Nat, k ≤ is.length ∧ i = .int .i64 k ∧ wr = w.drewN n ∧ ∀ j, j < k → ix is j = ix js j) (fun _ i _ => is.length - (intOf i).toNat)
    case atStart => exact ⟨0, 0, Nat.zero_le _, rfl, rfl, fun j h => absurd h (Nat.not_lt_zero _)⟩
    case round =>
      obtain ⟨k, n, hk, rfl, rfl, hall⟩ := hrel
      have HA := Lib.hid hall
      clear hall
      by_cases hlt : k < is.length
      · obtain ⟨b, off, rfl, hb, hc1⟩ := HP.out k hlt
        obtain ⟨b', off', rfl, hb', hd1⟩ := HQ.out k (by have := HE.out; omega)
        by_cases hs : ix is k = ix js k
        · have hb1 : (ix is k != ix js k) = false := by simp [hs]
          have HS := Lib.hid hs
          clear hs
          go_wp2
          go_quiet (fail)
          go_wp2
          go_roundw
          case rel => exact ⟨k + 1, _, by omega, by go_num, rfl, fun j hj => by by_cases e : j = k; (subst e; exact HS.out); exact HA.out j (by omega)⟩
          case measure => simp [intOf]; omega
        · have hb1 : (ix is k != ix js k) = true := by simp [hs]
          have HS := Lib.hid (isEq_ne hs)
          clear hs
          go_wp2
          go_quiet (fail)
          go_wp2
          go_ret
          exact ⟨by rw [HS.out]; rfl, n + nq, by rw [World.drewN_drewN]⟩
      · obtain rfl : k = is.length := by omega
        have HT := Lib.hid (isEq_of HE.out HA.out)
        go_wp2
        go_ret
        exact ⟨by rw [HT.out]; rfl, n, rfl⟩
  · have h1 : ((is.length : Int) != (js.length : Int)) = true := by simp; omega
    have HT := Lib.hid (isEq_len he)
    clear he
    go_enter Tryz.func219, Tryz.ntmps219
    go_wp2
    go_ret
    exact ⟨by rw [HT.out]; rfl, 0, rfl⟩

end Go.Proofs.YtdchfologicbeaaGreat
