/- Proved here: the library's Itoa, as the program calls it, writes a number in decimals, and so is a point written; numbers from -1,000 to 1,000, the library's table being as its text lays it. -/
import Derived.Test.YtelimcknhaflfaaGreatDoorItoa
import Derived.Test.YtelimcknhaflfaaGreatDoorWDec
import Derived.Deep.RegionHeld3
import Derived.Deep.DeepCutAuto
namespace Go.Proofs.YtelimcknhaflfaaGreatDoor
set_option linter.unusedVariables false
open Go.ChangeShapes Go.WideShapes Go.ChangeAt Go.RowKit

/-- the library's table is as its text lays it -/
def Tab (w : World) : Prop := Lib.TabIs Tryz.prog w "internal/strconv.uint64pow10" .u64 Lib.pow10Tab

theorem Tab.below {w w' : World} (h : Tab w) (hb : Below w.heap.size w w') : Tab w' := by
  unfold Tab Lib.TabIs World.var? at *
  cases hg : Tryz.prog.globalNamed "internal/strconv.uint64pow10" with
  | none => simp [hg] at h
  | some g =>
    simp only [hg, Option.bind_some] at h ⊢
    have hlt : g < w.heap.size := by
      rcases Nat.lt_or_ge g w.heap.size with h' | h'
      · exact h'
      · simp [Array.getElem?_eq_none h'] at h
    rw [hb.block g hlt]
    exact h

theorem grow_below (w : World) (k : Nat) (os : Array Obj) : Below w.heap.size w (Sort.grow (w.drewN k) os) := by
  refine ⟨rfl, rfl, rfl, ?_, fun j hj => ?_⟩
  · show w.heap.size ≤ (w.heap ++ os).size
    rw [Array.size_append]
    omega
  · show (w.heap ++ os)[j]? = w.heap[j]?
    rw [Array.getElem?_append_left hj]

theorem itoa_any (n : Int) (w : World) (h0 : -1000 ≤ n) (h1 : n ≤ 1000) (ht : Tab w) :
    Calls Tryz.prog 64 #[.int .i64 n] w fun e w' => e = .returned (.string (dec n)) ∧ Below w.heap.size w w' := by
  have h := Any.strconv_Itoa Tryz.itoaA n (by omega) (by omega) w ht
  refine Calls.mono h ?_
  rintro e w' ⟨rfl, k, os, rfl⟩
  exact ⟨rfl, grow_below w k os⟩

/-- a point, as a text -/
def ptT (x y : Int) : ByteArray := dec x ++ ⟨#[44]⟩ ++ dec y

set_option maxRecDepth 100000 in
set_option maxHeartbeats 2000000 in
theorem ptText_any (x y : Int) (w : World) (hx0 : -1000 ≤ x) (hx1 : x ≤ 1000) (hy0 : -1000 ≤ y) (hy1 : y ≤ 1000) (ht : Tab w) :
    Calls Tryz.prog 52 #[.agg #[.int .i64 x, .int .i64 y]] w fun e w' => e = .returned (.string (ptT x y)) ∧ Below w.heap.size w w' := by
  have HT := Lib.hid ht
  clear ht
  have sx := dec_size x hx0 hx1
  have sy := dec_size y hy0 hy1
  have sc : (⟨#[44]⟩ : ByteArray).size = 1 := rfl
  have sxc : (dec x ++ ⟨#[44]⟩).size ≤ 22 := by rw [ByteArray.size_append, sc]; omega
  have nb1 : ¬ 9223372036854775807 < (dec x).size + (⟨#[44]⟩ : ByteArray).size := by rw [sc]; omega
  have nb1' : ¬ 9223372036854775807 < (dec x).size + 1 := by omega
  have nb2 : ¬ 9223372036854775807 < (dec x ++ ⟨#[44]⟩).size + (dec y).size := by omega
  have nb2' : ¬ 9223372036854775807 < (dec x).size + 1 + (dec y).size := by omega
  have nb3' : ¬ 9223372036854775807 < (dec x).size + (⟨#[44]⟩ : ByteArray).size + (dec y).size := by rw [sc]; omega
  go_enter Tryz.func52, Tryz.ntmps52
  go_upto_region 1 with (fail)
  have A0 : Below w.heap.size w (w.alloc (.cells #[.int .i64 x, .int .i64 y] 75)) := (Below.refl _ _).alloc (Nat.le_refl _) _
  have c0 : (w.alloc (.cells #[.int .i64 x, .int .i64 y] 75)).cell? ⟨w.heap.size, 0, none⟩ = some (.int .i64 x) := by simp [go_sem]
  have c1 : (w.alloc (.cells #[.int .i64 x, .int .i64 y] 75)).cell? ⟨w.heap.size, 1, none⟩ = some (.int .i64 y) := by simp [go_sem]
  have TW := Lib.hid (HT.out.below A0)
  have AW := Lib.hid A0
  clear A0
  generalize (w.alloc (.cells #[.int .i64 x, .int .i64 y] 75)) = W at *
  go_cut [2] (fun s2 wx => s2 = .string (ptT x y) ∧ Below W.heap.size W wx)
  case first =>
    go_region_held3 (fun wy => wy.cell? ⟨w.heap.size, 0, none⟩ = some (.int .i64 x) ∧ wy.cell? ⟨w.heap.size, 1, none⟩ = some (.int .i64 y) ∧ Below W.heap.size W wy)
      (first
        | assumption
        | exact ⟨c0, c1, (Below.refl _ _).drew⟩
        | (go_split_ands
           rename_i hS0 hS1 hS2
           exact ⟨cell_later hbn hS0, cell_later hbn hS1, hS2.trans (hbn.mono hS2.size)⟩))
      (first
        | (go_at_call_of 64 (Value.int IntKind.i64 x)
           refine (itoa_any x _ hx0 hx1 ?_).mono ?_
           · (go_split_ands; exact TW.out.below (by assumption))
           rintro e wn ⟨rfl, hbn⟩)
        | (go_at_call_of 64 (Value.int IntKind.i64 y)
           refine (itoa_any y _ hy0 hy1 ?_).mono ?_
           · (go_split_ands; exact TW.out.below (by assumption))
           rintro e wn ⟨rfl, hbn⟩))
    all_goals (go_wp2_with fail; go_meet; go_split_ands; exact ⟨rfl, by assumption⟩)
  case rest =>
    obtain ⟨rfl, hB⟩ := hcut
    have B : Hid (Below w.heap.size w wc) := AW.out.trans (hB.mono AW.out.size)
    clear hB
    go_wp2
    go_ret
    exact ⟨rfl, B.out⟩
end Go.Proofs.YtelimcknhaflfaaGreatDoor
