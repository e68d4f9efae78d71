/- Proved here: both functions that write clashes as a text write one and the same text; lists of at most 1,048,576 clashes, texts of at most 1,048,576 bytes. -/
import Derived.Test.YtccgbengfmlgbaaWClash
import Derived.Test.YtccgbengfmlgbaaBld
namespace Go.Proofs.Ytccgbengfmlgbaa
set_option linter.unusedVariables false
open Go.ChangeShapes Go.WideShapes Go.ChangeAt Go.RowKit

/-- a clash, as a line -/
def clT (ts : List Tg) (j : Nat) : ByteArray := tk ts j ++ ⟨#[58, 32]⟩ ++ tv ts j ++ ⟨#[10]⟩
/-- the lines of the first clashes -/
def clTo (ts : List Tg) : Nat → ByteArray
  | 0 => ⟨#[]⟩
  | j + 1 => clTo ts j ++ clT ts j

theorem clT_size (ts : List Tg) (j : Nat) : (clT ts j).size = (tk ts j).size + 2 + (tv ts j).size + 1 := by
  unfold clT
  have s2 : (⟨#[58, 32]⟩ : ByteArray).size = 2 := rfl
  have s1 : (⟨#[10]⟩ : ByteArray).size = 1 := rfl
  rw [ByteArray.size_append, ByteArray.size_append, ByteArray.size_append, s1, s2]

theorem clTo_size {ts : List Tg} (hx : TagsLen ts 1048576) : ∀ j, j ≤ ts.length → (clTo ts j).size ≤ j * 2097155
  | 0, _ => Nat.zero_le _
  | j + 1, hj => by
    have ih := clTo_size hx j (by omega)
    obtain ⟨h1, h2⟩ := hx j (by omega)
    have h4 := clT_size ts j
    unfold clTo
    rw [ByteArray.size_append]
    omega

theorem clTo_next (ts : List Tg) (j : Nat) : clTo ts j ++ tk ts j ++ ⟨#[58, 32]⟩ ++ tv ts j ++ ⟨#[10]⟩ = clTo ts (j + 1) := by
  show _ = clTo ts j ++ clT ts j
  unfold clT
  simp only [ByteArray.append_assoc]

set_option maxRecDepth 100000 in
set_option maxHeartbeats 2000000 in
theorem specClashText_any (a : Option Addr) (cap : Nat) (ts : List Tg) (w : World) (hp : TagsAt w a ts) (hl : ts.length ≤ 1048576) (hx : TagsLen ts 1048576) :
    Calls Try.prog 6 #[.slice a ts.length cap] w fun e w' => e = .returned (.string (clTo ts ts.length)) ∧ Below w.heap.size w w' := by
  have HP := Lib.hid hp
  have HX := Lib.hid hx
  clear hp hx
  go_enter Try.func6, Try.ntmps6
  go_wp2
  go_loopw [3, 4] (fun s i wr => ∃ j : Nat, j ≤ ts.length ∧ s = .string (clTo ts j) ∧ i = .int .i64 j ∧ Below w.heap.size w wr) (fun _ i _ => ts.length - (intOf i).toNat)
  case atStart => exact ⟨0, Nat.zero_le _, rfl, rfl, Below.refl _ _⟩
  case round =>
    obtain ⟨j, hj, rfl, rfl, hbel⟩ := hrel
    have HB := Lib.hid hbel
    by_cases hlt : j < ts.length
    · obtain ⟨b, off, rfl, hb, hc1, hc2⟩ := (HP.out.below hbel) j hlt
      obtain ⟨hx1, hy1⟩ := HX.out j hlt
      have st := clTo_size HX.out j hj
      have s2 : (⟨#[58, 32]⟩ : ByteArray).size = 2 := rfl
      have s1 : (⟨#[10]⟩ : ByteArray).size = 1 := rfl
      have nb1 : ¬ 9223372036854775807 < (clTo ts j).size + (tk ts j).size := by omega
      have nb2 : ¬ 9223372036854775807 < (clTo ts j).size + (tk ts j).size + 2 := by omega
      have nb3 : ¬ 9223372036854775807 < (clTo ts j).size + (tk ts j).size + 2 + (tv ts j).size := by omega
      have nb4 : ¬ 9223372036854775807 < (clTo ts j).size + (tk ts j).size + 2 + (tv ts j).size + 1 := by omega
      have HN := Lib.hid (clTo_next ts j)
      clear st hx1 hy1 hbel
      go_wp2
      go_quiet (fail)
      go_wp2
      go_roundw
      case rel => exact ⟨j + 1, by omega, congrArg Value.string HN.out, by go_num, below_drewN HB.out _⟩
      case measure => simp [intOf]; omega
    · obtain rfl : j = ts.length := by omega
      clear hbel
      go_wp2
      go_ret
      exact ⟨rfl, HB.out⟩

theorem bldAt_below {T e : TypeId} {B b : Nat} {p : Value} {bs : List Value} {w w' : World} (h : Lib.BuilderAt T e B b p bs w) (hb : Below w.heap.size w w') : Lib.BuilderAt T e B b p bs w' := by
  have hlt := h.lt
  obtain ⟨h1, v, h2, h3, h4⟩ := h
  refine ⟨h1, v, (hb.block _ hlt).trans h2, ?_, h4⟩
  refine ⟨h3.1, h3.2.imp id ?_⟩
  rintro ⟨g, cap, cur, k1, k2, k3, k4⟩
  exact ⟨g, cap, cur, k1, k2, (hb.block _ (Array.getElem?_eq_some_iff.1 k3).1).trans k3, k4⟩
theorem isBld_below {T e : TypeId} {B b : Nat} {bs : List Value} {w w' : World} (h : Lib.IsBuilder T e B b bs w) (hb : Below w.heap.size w w') : Lib.IsBuilder T e B b bs w' := h.imp (fun k => bldAt_below k hb) (fun k => bldAt_below k hb)

theorem clTo_cells (ts : List Tg) (j : Nat) : Lib.byteCells (clTo ts j).data.toList ++ Lib.strCells (tk ts j ++ ⟨#[58, 32]⟩ ++ tv ts j ++ ⟨#[10]⟩) = Lib.byteCells (clTo ts (j + 1)).data.toList := by
  rw [Lib.strCells_eq, ← Lib.byteCells_append, ← clTo_next]
  congr 1
  simp only [ByteArray.append_assoc, ByteArray.data_append, Array.toList_append]

set_option maxRecDepth 100000 in
set_option maxHeartbeats 4000000 in
theorem implClashText_any (a : Option Addr) (cap : Nat) (ts : List Tg) (w : World) (hp : TagsAt w a ts) (hl : ts.length ≤ 1048576) (hx : TagsLen ts 1048576) :
    Calls Try.prog 8 #[.slice a ts.length cap] w fun e w' => e = .returned (.string (clTo ts ts.length)) ∧ Below w.heap.size w w' := by
  have HP := Lib.hid hp
  have HX := Lib.hid hx
  clear hp hx
  have hf := Lib.hid (Lib.fresh_isBuilder 38 5 w)
  go_enter Try.func8, Try.ntmps8
  go_wp2
  go_loopw [5, 8] (fun _ i wr => ∃ j : Nat, j ≤ ts.length ∧ i = .int .i64 j ∧ Lib.IsBuilder 38 5 w.heap.size w.heap.size (Lib.byteCells (clTo ts j).data.toList) wr ∧ Below w.heap.size w wr) (fun _ i _ => ts.length - (intOf i).toNat)
  case atStart => exact ⟨0, Nat.zero_le _, rfl, hf.out, (Below.refl _ _).alloc (Nat.le_refl _) _⟩
  case round =>
    clear hf
    obtain ⟨j, hj, rfl, hbu, hbel⟩ := hrel
    have HB := Lib.hid hbel
    have HU := Lib.hid hbu
    have hsz := hbel.size
    clear hbu
    by_cases hlt : j < ts.length
    · obtain ⟨b, off, rfl, hb, hc1, hc2⟩ := (HP.out.below hbel) j hlt
      obtain ⟨hx1, hy1⟩ := HX.out j hlt
      have st := clTo_size HX.out j hj
      have s2 : (⟨#[58, 32]⟩ : ByteArray).size = 2 := rfl
      have s1 : (⟨#[10]⟩ : ByteArray).size = 1 := rfl
      have nb1 : ¬ 9223372036854775807 < (tk ts j).size + 2 := by omega
      have nb2 : ¬ 9223372036854775807 < (tk ts j).size + 2 + (tv ts j).size := by omega
      have nb3 : ¬ 9223372036854775807 < (tk ts j).size + 2 + (tv ts j).size + 1 := by omega
      have nb4 : (Lib.byteCells (clTo ts j).data.toList).length + (tk ts j ++ ⟨#[58, 32]⟩ ++ tv ts j ++ ⟨#[10]⟩).size ≤ 140737488355328 := by
        rw [Lib.byteCells_length, ← Lib.size_eq, ByteArray.size_append, ByteArray.size_append, ByteArray.size_append, s1, s2]
        omega
      have N4 := Lib.hid nb4
      have HN := Lib.hid (clTo_cells ts j)
      have HA : Hid (∀ o, Lib.IsBuilder 38 5 w.heap.size w.heap.size (Lib.byteCells (clTo ts j).data.toList) (wr.alloc o)) := fun o => isBld_below HU.out ((Below.refl _ _).alloc (Nat.le_refl _) _)
      clear st hx1 hy1 hbel nb4
      go_wp2_with fail
      refine (bldWrite_any w.heap.size w.heap.size _ _ _ (HA.out _) N4.out (by simp; omega)).mono ?_
      rintro e w1 ⟨rfl, hbu1, hb1⟩
      rw [HN.out] at hbu1
      have U1 := Lib.hid hbu1
      have B1 : Hid (Below w.heap.size w w1) := (HB.out.alloc hsz _).trans hb1
      clear hbu1 hb1 HA HN HU N4
      go_wp2
      go_roundw
      case rel => exact ⟨j + 1, by omega, by go_num, .inr U1.out, B1.out⟩
      case measure => simp [intOf]; omega
    · obtain rfl : j = ts.length := by omega
      clear hbel
      go_wp2_with fail
      refine (bldString_any w.heap.size w.heap.size _ _ HU.out hsz).mono ?_
      rintro e w1 ⟨rfl, hb1⟩
      have B1 : Hid (Below w.heap.size w w1) := HB.out.trans hb1
      clear hb1
      go_wp2
      go_ret
      exact ⟨rfl, B1.out⟩

end Go.Proofs.Ytccgbengfmlgbaa
