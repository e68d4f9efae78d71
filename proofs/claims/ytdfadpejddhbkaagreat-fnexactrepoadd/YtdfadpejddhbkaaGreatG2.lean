/- Proved here: contracts of the small functions over branches: size, copy, comparison; lists of at most 1,048,576 branches. Proved here: what it is that a slice reads as versions; their size and their copy; lists of at most 1,048,576. Proved here: appending a row of numbers, or nothing, to a row of its own; rows of at most 1,000,000 together. Proved here: the library's copy of a list of numbers lies in memory of its own; at most 1,000,000 of them. Proved here: a block of cells that nothing of is frozen, and what stands in it; no condition. Proved here: the copy of a version, by the program, its two lists in memory of their own and apart, whichever is copied first; at most 1,000,000 Up and 1,048,576 things. Proved here: a row of numbers in memory of its own is marked, and asked for its marks; rows of at most 1,048,576 numbers. -/
import Derived.Test.YtdfadpejddhbkaaGreatWTag
import Derived.StillTailTactics
import Derived.Test.YtdfadpejddhbkaaGreatWSheet
import Derived.Test.YtdfadpejddhbkaaGreatG1
import Derived.Deep.AppendLies
import Derived.Test.YtdfadpejddhbkaaGreatWBase
import Derived.Deep.RegionHeld3
import Derived.Deep.DeepCutAuto
import Derived.Test.YtdfadpejddhbkaaGreatWMarkList
namespace Go.Proofs.YtdfadpejddhbkaaGreat
set_option linter.unusedVariables false
open Go.ChangeShapes Go.WideShapes Go.ChangeAt Go.RowKit

/-- a branch: its name and its version -/
abbrev Hd := ByteArray × Int

def hdn (hs : List Hd) (i : Nat) : ByteArray := (hs.getD i (.empty, 0)).1
def hda (hs : List Hd) (i : Nat) : Int := (hs.getD i (.empty, 0)).2

theorem hd_of (hs : List Hd) (i : Nat) : hs.getD i (.empty, 0) = (hdn hs i, hda hs i) := rfl
theorem hd_get {hs : List Hd} {i : Nat} (h : i < hs.length) : hs[i] = (hdn hs i, hda hs i) := by simp [hdn, hda, h]

/-- two branches are one -/
def hdEq (p q : Hd) : Bool := decide (p = q)
def hdsEq (hs gs : List Hd) : Bool := decide (hs = gs)

theorem hdsEq_of {hs gs : List Hd} (hl : hs.length = gs.length) (h : ∀ j, j < hs.length → hdn hs j = hdn gs j ∧ hda hs j = hda gs j) : hdsEq hs gs = true := by
  unfold hdsEq
  rw [decide_eq_true_iff]
  refine List.ext_getElem hl fun i h1 h2 => ?_
  have := h i h1
  rw [hd_get h1, hd_get h2, this.1, this.2]

theorem hdsEq_ne {hs gs : List Hd} {j : Nat} (h : ¬ (hdn hs j = hdn gs j ∧ hda hs j = hda gs j)) : hdsEq hs gs = false := by
  unfold hdsEq
  rw [decide_eq_false_iff_not]
  rintro rfl
  exact h ⟨rfl, rfl⟩

theorem hdsEq_len {hs gs : List Hd} (h : hs.length ≠ gs.length) : hdsEq hs gs = false := by
  unfold hdsEq
  rw [decide_eq_false_iff_not]
  rintro rfl
  exact h rfl

/-- a slice that reads as branches -/
def HeadsAt (w : World) (a : Option Addr) (hs : List Hd) : Prop :=
  ∀ i, i < hs.length → ∃ b off, a = some ⟨b, off, none⟩ ∧ b < w.heap.size ∧ w.cell? ⟨b, off + i * 2, none⟩ = some (.string (hdn hs i)) ∧ w.cell? ⟨b, off + i * 2 + 1, none⟩ = some (.int .i64 (hda hs i))

theorem HeadsAt.nil (w : World) (a : Option Addr) : HeadsAt w a [] := fun _ h => absurd h (Nat.not_lt_zero _)

theorem HeadsAt.below {w w' : World} {a : Option Addr} {hs : List Hd} (h : HeadsAt w a hs) (hb : Below w.heap.size w w') : HeadsAt w' a hs := by
  intro i hi
  obtain ⟨b, off, rfl, hlt, h1, h2⟩ := h i hi
  exact ⟨b, off, rfl, Nat.lt_of_lt_of_le hlt hb.size, by rw [hb.cell (p := ⟨b, _, none⟩) hlt]; exact h1, by rw [hb.cell (p := ⟨b, _, none⟩) hlt]; exact h2⟩

/-- the names of branches are no longer than that -/
def HeadsLen (hs : List Hd) (m : Int) : Prop := ∀ j, j < hs.length → ((hdn hs j).size : Int) ≤ m
theorem HeadsLen.mono {hs : List Hd} {l m : Int} (h : HeadsLen hs l) (hm : l ≤ m) : HeadsLen hs m := fun j hj => Int.le_trans (h j hj) hm

def SzHeads (hs : List Hd) (left : Int) (r : Int) : Prop := r = -1 ∨ (0 ≤ r ∧ r ≤ left ∧ (hs.length : Int) ≤ left ∧ HeadsLen hs left)

set_option maxHeartbeats 400000 in
theorem toHead_any (x : ByteArray) (y : Int) (w : World) :
    Calls Tryz.prog 141 #[.agg #[.string x, .int .i64 y]] w fun e w' => e = .returned (.agg #[.string x, .int .i64 y]) ∧ Below w.heap.size w w' := by
  go_enter Tryz.func141, Tryz.ntmps141
  go_wp2
  refine bodyPost_ret (v := .agg #[.string x, .int .i64 y]) (by simp [results, Tryz.results141, go_sem]) rfl ⟨rfl, ?_⟩
  exact (((Below.refl _ _).alloc (Nat.le_refl _) _).alloc (by simp) _).alloc (by simp; omega) _

set_option maxHeartbeats 400000 in
theorem eqHead_any (x a : ByteArray) (y b : Int) (w : World) :
    Calls Tryz.prog 147 #[.agg #[.string x, .int .i64 y], .agg #[.string a, .int .i64 b]] w fun e w' => e = .returned (.bool (hdEq (x, y) (a, b))) ∧ Below w.heap.size w w' := by
  have e1 := bytes_beq x a
  by_cases h1 : x = a
  · rw [decide_eq_true h1] at e1
    by_cases h2 : y = b
    · have HS : Hid (hdEq (x, y) (a, b) = true) := by simp [Hid, hdEq, h1, h2]
      have e2 : (y != b) = false := by simp [h2]
      clear h1 h2
      go_enter Tryz.func147, Tryz.ntmps147
      go_wp2
      go_ret
      exact ⟨by rw [HS.out]; rfl, ((Below.refl _ _).alloc (Nat.le_refl _) _).alloc (by simp) _⟩
    · have HS : Hid (hdEq (x, y) (a, b) = false) := by simp [Hid, hdEq, h2]
      have e2 : (y != b) = true := by simp [h2]
      clear h1 h2
      go_enter Tryz.func147, Tryz.ntmps147
      go_wp2
      go_ret
      exact ⟨by rw [HS.out]; rfl, ((Below.refl _ _).alloc (Nat.le_refl _) _).alloc (by simp) _⟩
  · rw [decide_eq_false h1] at e1
    have HS : Hid (hdEq (x, y) (a, b) = false) := by simp [Hid, hdEq, h1]
    clear h1
    go_enter Tryz.func147, Tryz.ntmps147
    go_wp2
    go_ret
    exact ⟨by rw [HS.out]; rfl, ((Below.refl _ _).alloc (Nat.le_refl _) _).alloc (by simp) _⟩

theorem run_hdEql (x a : ByteArray) (y b : Int) (w : World) : (binOp .eql 115 (.agg #[.string x, .int .i64 y]) (.agg #[.string a, .int .i64 b])).run Tryz.prog w = .ok (.bool (hdEq (x, y) (a, b))) w := by
  have u3 := Tryz.underlying9
  have a3 := Tryz.isAgg9
  have z3 := Tryz.sizeOf9
  have v3 := Tryz.underlying3
  have b3 := Tryz.isAgg3
  have y3 := Tryz.sizeOf3
  have hS : Tryz.prog.underlying 115 = some (.struct (Tryz.prog.fieldsOf 115)) := by kernel_rfl
  have hp : Tryz.prog.stoodInHeld 115 = false := by kernel_rfl
  rw [run_eql_struct, show (10000 : Nat) = 9999 + 1 from rfl, run_equalIn_agg w 9999 115 _ _ hS hp]
  simp only [Program.fieldsOf, Tryz.underlying115]
  go_simp
  have i1 := toList_inj x a
  by_cases h1 : x = a <;> by_cases h2 : y = b <;> simp_all [hdEq]

theorem run_hdNeq (x a : ByteArray) (y b : Int) (w : World) : (binOp .neq 115 (.agg #[.string x, .int .i64 y]) (.agg #[.string a, .int .i64 b])).run Tryz.prog w = .ok (.bool (!hdEq (x, y) (a, b))) w := by
  have u3 := Tryz.underlying9
  have a3 := Tryz.isAgg9
  have z3 := Tryz.sizeOf9
  have v3 := Tryz.underlying3
  have b3 := Tryz.isAgg3
  have y3 := Tryz.sizeOf3
  have hS : Tryz.prog.underlying 115 = some (.struct (Tryz.prog.fieldsOf 115)) := by kernel_rfl
  have hp : Tryz.prog.stoodInHeld 115 = false := by kernel_rfl
  rw [run_neq_struct, show (10000 : Nat) = 9999 + 1 from rfl, run_equalIn_agg w 9999 115 _ _ hS hp]
  simp only [Program.fieldsOf, Tryz.underlying115]
  go_simp
  have i1 := toList_inj x a
  by_cases h1 : x = a <;> by_cases h2 : y = b <;> simp_all [hdEq]

theorem cellsHead : Tryz.prog.cellsOf 115 = 2 := by kernel_rfl
theorem cellsLHead : Tryz.prog.cellsOf 173 = 2 := by kernel_rfl
theorem infoHead : (Tryz.prog.info? 115).map (fun i => (i.zero, i.size, i.bytes)) = some (some (.agg #[.string .empty, .int .i64 0]), 2, 24) := by kernel_rfl

/-- a branches' cell by its place -/
def headCell (hs : List Hd) (j : Nat) : Value := if j % 2 = 0 then .string (hdn hs (j / 2)) else .int .i64 (hda hs (j / 2))
def zeroH (j : Nat) : Value := if j % 2 = 0 then .string .empty else .int .i64 0

/-- how far a row is filled -/
def filledH (hs : List Hd) (k j : Nat) : Value := if j < k * 2 then headCell hs j else zeroH j

theorem filledH_step (hs : List Hd) (k j : Nat) :
    (if j = k * 2 + 1 then .int .i64 (hda hs k) else if j = k * 2 then .string (hdn hs k) else filledH hs k j) = filledH hs (k + 1) j := by
  unfold filledH headCell
  by_cases h1 : j = k * 2 + 1
  · subst h1
    rw [if_pos rfl, if_pos (by omega), if_neg (by omega), show (k * 2 + 1) / 2 = k by omega]
  · rw [if_neg h1]
    by_cases h2 : j = k * 2
    · subst h2
      rw [if_pos rfl, if_pos (by omega), if_pos (by omega), show (k * 2) / 2 = k by omega]
    · rw [if_neg h2]
      by_cases h3 : j < k * 2
      · have h4 : j < (k + 1) * 2 := by omega
        rw [if_pos h3, if_pos h4]
      · rw [if_neg h3, if_neg (by omega)]

theorem made_rowH (w : World) (n : Nat) (t : TypeId) : (w.alloc (.cells (madeCells #[.string .empty, .int .i64 0] (n * 2)) t)).rowIs w.heap.size t (n * 2) zeroH := by
  have hs : (madeCells #[Value.string .empty, .int .i64 0] (n * 2)).size = n * 2 := by simp [madeCells]
  have := World.rowIs_alloc w (madeCells #[.string .empty, .int .i64 0] (n * 2)) t zeroH (by
    intro i hi
    rw [hs] at hi
    simp only [madeCells, Array.getElem?_map, Array.getElem?_range, if_pos hi, Option.map_some]
    have : i % 2 = 0 ∨ i % 2 = 1 := by omega
    rcases this with h | h <;> simp [h, zeroH])
  rwa [hs] at this

theorem HeadsAt.of_row {hs : List Hd} {w : World} {b : Nat} {t : TypeId} (h : w.rowIs b t (hs.length * 2) (headCell hs)) : HeadsAt w (some ⟨b, 0, none⟩) hs := by
  intro i hi
  refine ⟨b, 0, rfl, h.lt, ?_, ?_⟩
  · have := h.cell (i := i * 2) (by omega)
    rw [Nat.zero_add, this]
    unfold headCell
    rw [if_pos (by omega), show i * 2 / 2 = i by omega]
  · have := h.cell (i := i * 2 + 1) (by omega)
    rw [Nat.zero_add, this]
    unfold headCell
    rw [if_neg (by omega), show (i * 2 + 1) / 2 = i by omega]

/-- what 'toHeadS' answers: a row of its own -/
def NewHeads (w : World) (hs : List Hd) (e : Ending) (w' : World) : Prop :=
  ∃ b, e = .returned (.slice (some ⟨b, 0, none⟩) hs.length hs.length) ∧ w'.rowIs b 115 (hs.length * 2) (headCell hs) ∧ w.heap.size ≤ b ∧ Below w.heap.size w w'

set_option maxHeartbeats 400000 in
theorem toHeadS_any (a : Option Addr) (cap : Nat) (hs : List Hd) (w : World) (hp : HeadsAt w a hs) (hlen : hs.length ≤ 1048576) :
    Calls Tryz.prog 94 #[.slice a hs.length cap] w (NewHeads w hs) := by
  obtain ⟨i0, hi, hz0, hz1, hz2⟩ := info_parts infoHead
  have hmk : ∀ u : World, (Instr.makeSlice 44 (.int .i64 (hs.length : Int)) (.int .i64 (hs.length : Int))).run Tryz.prog u =
      .ok (.slice (some ⟨u.heap.size, 0, none⟩) hs.length hs.length) (u.alloc (.cells (madeCells #[.string .empty, .int .i64 0] (hs.length * 2)) 115)) := fun u => by
    have h := run_make (P := Tryz.prog) u 44 115 i0 (.agg #[.string .empty, .int .i64 0]) Tryz.underlying44 hi hz0 .i64 .i64 (hs.length : Int) (hs.length : Int) (by omega) (Int.le_refl _) (by rw [hz2]; omega) (by omega)
    simpa [hz1, Value.cells] using h
  have H0 := Lib.hid hp
  clear hp hz0 hz1 hz2 hi
  go_enter Tryz.func94, Tryz.ntmps94
  go_wp2
  clear hmk
  go_loopw [4] (fun i wr => ∃ k : Nat, k ≤ hs.length ∧ i = .int .i64 k ∧ wr.rowIs w.heap.size 115 (hs.length * 2) (filledH hs k) ∧ Below w.heap.size w wr) (fun i _ => hs.length - (intOf i).toNat)
  case atStart =>
    refine ⟨0, Nat.zero_le _, rfl, (made_rowH w hs.length _).congr fun i _ => ?_, (Below.refl _ _).alloc (Nat.le_refl _) _⟩
    unfold filledH
    rw [if_neg (by omega)]
  case round =>
    obtain ⟨k, hk, rfl, hrow, hbel⟩ := hrel
    by_cases hlt : k < hs.length
    · obtain ⟨b, off, rfl, hb, hc1, hc2⟩ := H0.out k hlt
      rw [← hbel.cell (p := ⟨b, _, none⟩) hb] at hc1 hc2
      have HR := Lib.hid hrow
      have HB := Lib.hid hbel
      clear hrow hbel
      have hsz := HB.out.size
      go_wp2_with fail
      refine (toHead_any _ _ _).mono ?_
      rintro e w1 ⟨rfl, hb1⟩
      have hrow1 : w1.rowIs w.heap.size 115 (hs.length * 2) (filledH hs k) := HR.out.of_block (hb1.block _ HR.out.lt)
      have hf1 := hrow1.frozen (k * 2)
      have hf2 := hrow1.frozen (k * 2 + 1)
      have hd1 := hrow1.cell (i := k * 2) (by omega)
      have hd2 := hrow1.cell (i := k * 2 + 1) (by omega)
      have HR1 := Lib.hid hrow1
      have HB1 := Lib.hid hb1
      clear hrow1 hb1
      go_wp2
      go_roundw
      case rel =>
        refine ⟨k + 1, by omega, by go_num, ((HR1.out.set (k * 2) _).set (k * 2 + 1) _).congr fun j _ => filledH_step hs k j, ?_⟩
        exact ((HB.out.trans (HB1.out.mono hsz)).setCell (Nat.le_refl _) _).setCell (Nat.le_refl _) _
      case measure => simp [intOf]; omega
    · have HR := Lib.hid hrow
      have HB := Lib.hid hbel
      clear hrow hbel
      go_wp2
      go_ret
      obtain rfl : k = hs.length := by omega
      exact ⟨w.heap.size, rfl, HR.out.congr fun j hj => (by unfold filledH; rw [if_pos hj]), Nat.le_refl _, HB.out⟩

set_option maxHeartbeats 1000000 in
theorem szHead_any (x : ByteArray) (y : Int) (left : Int) (w : World) (h0 : 0 ≤ left) (h1 : left ≤ 1048576) (hx : x.size ≤ 9223372036854775807) :
    Calls Tryz.prog 136 #[.agg #[.string x, .int .i64 y], .int .i64 left] w fun e w' => (∃ r, e = .returned (.int .i64 r) ∧ (r = -1 ∨ (0 ≤ r ∧ r ≤ left ∧ (x.size : Int) ≤ left))) ∧ Below w.heap.size w w' := by
  by_cases g1 : (x.size : Int) ≤ left
  · go_enter Tryz.func136, Tryz.ntmps136
    go_wp2
    go_ret
    exact ⟨⟨_, rfl, .inr ⟨by omega, by omega, by omega⟩⟩, (Below.refl _ _).alloc (Nat.le_refl _) _⟩
  · go_enter Tryz.func136, Tryz.ntmps136
    go_wp2
    go_ret
    exact ⟨⟨_, rfl, .inl rfl⟩, (Below.refl _ _).alloc (Nat.le_refl _) _⟩

set_option maxHeartbeats 1000000 in
theorem szHeadS_any (a : Option Addr) (cap : Nat) (hs : List Hd) (left : Int) (w : World) (hp : HeadsAt w a hs) (hm : hs.length ≤ 9223372036854775807) (hl : HeadsLen hs 9223372036854775807) (h0 : 0 ≤ left) (h1 : left ≤ 1048576) :
    Calls Tryz.prog 88 #[.slice a hs.length cap, .int .i64 left] w fun e w' => (∃ r, e = .returned (.int .i64 r) ∧ SzHeads hs left r) ∧ Below w.heap.size w w' := by
  have HP := Lib.hid hp
  have HL := Lib.hid hl
  clear hp hl
  by_cases g1 : (hs.length : Int) ≤ left
  · go_enter Tryz.func88, Tryz.ntmps88
    go_wp2
    go_loopw [1, 5] (fun l i wr => ∃ (k : Nat) (r : Int), k ≤ hs.length ∧ i = .int .i64 k ∧ l = .int .i64 r ∧ 0 ≤ r ∧ r ≤ left ∧ Below w.heap.size w wr ∧ ∀ j, j < k → ((hdn hs j).size : Int) ≤ left) (fun _ i _ => hs.length - (intOf i).toNat)
    case atStart => exact ⟨0, left - hs.length, Nat.zero_le _, rfl, by simp, by omega, by omega, Below.refl _ _, fun j h => absurd h (Nat.not_lt_zero _)⟩
    case round =>
      obtain ⟨k, r, hk, rfl, rfl, hr0, hr1, hbel, hall⟩ := hrel
      have HA := Lib.hid hall
      have HB := Lib.hid hbel
      have hsz := hbel.size
      clear hall
      by_cases hlt : k < hs.length
      · obtain ⟨b, off, rfl, hb, hc1, hc2⟩ := HP.out k hlt
        rw [← hbel.cell (p := ⟨b, _, none⟩) hb] at hc1 hc2
        clear hbel
        go_wp2_with fail
        refine (szHead_any _ _ _ _ hr0 (by omega) (by have := HL.out k hlt; omega)).mono ?_
        rintro e w1 ⟨⟨r', rfl, hs'⟩, hb1⟩
        have HB1 := Lib.hid hb1
        clear hb1
        rcases hs' with rfl | ⟨g2, g3, g4⟩
        · go_wp2
          go_ret
          exact ⟨⟨_, rfl, .inl rfl⟩, HB.out.trans (HB1.out.mono hsz)⟩
        · go_wp2
          go_roundw
          case rel => exact ⟨k + 1, r', by omega, by go_num, rfl, g2, by omega, HB.out.trans (HB1.out.mono hsz), fun j hj => by by_cases e : j = k; (subst e; omega); exact HA.out j (by omega)⟩
          case measure => simp [intOf]; omega
      · obtain rfl : k = hs.length := by omega
        clear hbel
        go_wp2
        go_ret
        exact ⟨⟨_, rfl, .inr ⟨hr0, hr1, g1, HA.out⟩⟩, HB.out⟩
  · go_enter Tryz.func88, Tryz.ntmps88
    go_wp2
    go_ret
    exact ⟨⟨_, rfl, .inl rfl⟩, Below.refl _ _⟩

set_option maxRecDepth 100000 in
set_option maxHeartbeats 1000000 in
theorem eqHeadS_any (a a' : Option Addr) (cap cap' : Nat) (hs gs : List Hd) (w : World) (hp : HeadsAt w a hs) (hq : HeadsAt w a' gs) (hl : hs.length ≤ 1048576) (hl' : gs.length ≤ 1048576) :
    Calls Tryz.prog 102 #[.slice a hs.length cap, .slice a' gs.length cap'] w fun e w' => e = .returned (.bool (hdsEq hs gs)) ∧ Below w.heap.size w w' := by
  have HP := Lib.hid hp
  have HQ := Lib.hid hq
  clear hp hq
  by_cases he : hs.length = gs.length
  · have HE := Lib.hid he
    rw [← he]
    have h1 : ((hs.length : Int) != (hs.length : Int)) = false := by simp
    clear he
    go_enter Tryz.func102, Tryz.ntmps102
    go_wp2
    go_loopw [5] (fun i wr => ∃ k : Nat, k ≤ hs.length ∧ i = .int .i64 k ∧ Below w.heap.size w wr ∧ ∀ j, j < k → hdn hs j = hdn gs j ∧ hda hs j = hda gs j) (fun i _ => hs.length - (intOf i).toNat)
    case atStart => exact ⟨0, Nat.zero_le _, rfl, Below.refl _ _, fun j h => absurd h (Nat.not_lt_zero _)⟩
    case round =>
      obtain ⟨k, hk, rfl, hbel, hall⟩ := hrel
      have HA := Lib.hid hall
      have HB := Lib.hid hbel
      have hsz := hbel.size
      clear hall
      by_cases hlt : k < hs.length
      · obtain ⟨b, off, rfl, hb, hc1, hc2⟩ := HP.out k hlt
        obtain ⟨b', off', rfl, hb', hd1, hd2⟩ := HQ.out k (by have := HE.out; omega)
        rw [← hbel.cell (p := ⟨b, _, none⟩) hb] at hc1 hc2
        rw [← hbel.cell (p := ⟨b', _, none⟩) hb'] at hd1 hd2
        clear hbel
        by_cases hs' : hdn hs k = hdn gs k ∧ hda hs k = hda gs k
        · have hb1 : hdEq (hdn hs k, hda hs k) (hdn gs k, hda gs k) = true := by simp [hdEq, hs']
          have HS := Lib.hid hs'
          clear hs'
          go_wp2
          go_still_tail 8, (by kernel_rfl)
          go_wp2_with fail
          refine (eqHead_any _ _ _ _ _).mono ?_
          rintro e w1 ⟨rfl, hb2⟩
          have HB2 := Lib.hid hb2
          clear hb2
          go_wp2
          go_roundw
          case rel => exact ⟨k + 1, by omega, by go_num, HB.out.drew.trans (HB2.out.mono hsz), fun j hj => by by_cases e : j = k; (subst e; exact HS.out); exact HA.out j (by omega)⟩
          case measure => simp [intOf]; omega
        · have hb1 : hdEq (hdn hs k, hda hs k) (hdn gs k, hda gs k) = false := by simpa [hdEq] using hs'
          have HS := Lib.hid (hdsEq_ne hs')
          clear hs'
          go_wp2
          go_still_tail 8, (by kernel_rfl)
          go_wp2_with fail
          refine (eqHead_any _ _ _ _ _).mono ?_
          rintro e w1 ⟨rfl, hb2⟩
          have HB2 := Lib.hid hb2
          clear hb2
          go_wp2
          go_ret
          exact ⟨by rw [HS.out]; rfl, HB.out.drew.trans (HB2.out.mono hsz)⟩
      · obtain rfl : k = hs.length := by omega
        have HT := Lib.hid (hdsEq_of HE.out HA.out)
        clear hbel
        go_wp2
        go_ret
        exact ⟨by rw [HT.out]; rfl, HB.out⟩
  · have h1 : ((hs.length : Int) != (gs.length : Int)) = true := by simp; omega
    have HT := Lib.hid (hdsEq_len he)
    clear he
    go_enter Tryz.func102, Tryz.ntmps102
    go_wp2
    go_ret
    exact ⟨by rw [HT.out]; rfl, Below.refl _ _⟩

end Go.Proofs.YtdfadpejddhbkaaGreat

namespace Go.Proofs.YtdfadpejddhbkaaGreat
set_option linter.unusedVariables false
open Go.ChangeShapes Go.WideShapes Go.ChangeAt Go.RowKit

/-- what stands in the blocks from lo on stands there still -/
structure Keeps (lo : Nat) (w w' : World) : Prop where
  size : w.heap.size ≤ w'.heap.size
  block : ∀ b, lo ≤ b → b < w.heap.size → w'.heap[b]? = w.heap[b]?

theorem Keeps.refl (lo : Nat) (w : World) : Keeps lo w w := ⟨Nat.le_refl _, fun _ _ _ => rfl⟩
theorem Keeps.trans {lo : Nat} {a b c : World} (h : Keeps lo a b) (k : Keeps lo b c) : Keeps lo a c :=
  ⟨Nat.le_trans h.size k.size, fun i hi hl => (k.block i hi (Nat.lt_of_lt_of_le hl h.size)).trans (h.block i hi hl)⟩
theorem Keeps.of {lo : Nat} {w w' : World} (h : Below w.heap.size w w') : Keeps lo w w' := ⟨h.size, fun b _ hb => h.block b hb⟩
theorem Keeps.mono {lo hi : Nat} {w w' : World} (h : Keeps lo w w') (hl : lo ≤ hi) : Keeps hi w w' := ⟨h.size, fun b hb hs => h.block b (Nat.le_trans hl hb) hs⟩
theorem Keeps.setCell {lo : Nat} {a w : World} (h : Keeps lo a w) {p : Addr} (hp : p.block < lo) (u : Value) : Keeps lo a (w.setCell p u) :=
  h.trans ⟨by simp [World.setCell], fun k hk _ => Below.heap_setCell _ _ _ _ (by omega)⟩

/-- numbers that lie from lo on -/
def IntsUp (w : World) (lo : Nat) (a : Option Addr) (is : List Int) : Prop := ∀ w', Keeps lo w w' → IntsAt w' a is
def FeatsUp (w : World) (lo : Nat) (a : Option Addr) (fs : List Ft) : Prop := ∀ w', Keeps lo w w' → FeatsAt w' a fs
theorem IntsUp.at {w : World} {lo : Nat} {a : Option Addr} {is : List Int} (h : IntsUp w lo a is) : IntsAt w a is := h w (Keeps.refl _ _)
theorem FeatsUp.at {w : World} {lo : Nat} {a : Option Addr} {fs : List Ft} (h : FeatsUp w lo a fs) : FeatsAt w a fs := h w (Keeps.refl _ _)
theorem IntsUp.step {w w' : World} {lo : Nat} {a : Option Addr} {is : List Int} (h : IntsUp w lo a is) (k : Keeps lo w w') : IntsUp w' lo a is := fun w2 k2 => h w2 (k.trans k2)
theorem FeatsUp.step {w w' : World} {lo : Nat} {a : Option Addr} {fs : List Ft} (h : FeatsUp w lo a fs) (k : Keeps lo w w') : FeatsUp w' lo a fs := fun w2 k2 => h w2 (k.trans k2)
theorem IntsUp.mono {w : World} {lo lo' : Nat} {a : Option Addr} {is : List Int} (h : IntsUp w lo a is) (hl : lo' ≤ lo) : IntsUp w lo' a is := fun w2 k2 => h w2 (k2.mono hl)
theorem FeatsUp.mono {w : World} {lo lo' : Nat} {a : Option Addr} {fs : List Ft} (h : FeatsUp w lo a fs) (hl : lo' ≤ lo) : FeatsUp w lo' a fs := fun w2 k2 => h w2 (k2.mono hl)
theorem IntsUp.nil (w : World) (lo : Nat) (a : Option Addr) : IntsUp w lo a [] := fun w2 _ => IntsAt.nil w2 a
theorem FeatsUp.nil (w : World) (lo : Nat) (a : Option Addr) : FeatsUp w lo a [] := fun w2 _ => FeatsAt.nil w2 a

theorem IntsUp.of_row {w : World} {lo b : Nat} {t : TypeId} {is : List Int} (h : w.rowIs b t is.length (intCell is)) (hl : lo ≤ b) : IntsUp w lo (some ⟨b, 0, none⟩) is :=
  fun w' k => IntsAt.of_row (h.of_block (k.block b hl h.lt))

theorem FeatsUp.of_row {w : World} {lo b : Nat} {t : TypeId} {fs : List Ft} {ad : Nat → Nat × Nat} (h : w.rowIs b t (fs.length * 4) (featCell fs ad)) (hp : Parts w b fs ad fs.length) (hl : lo ≤ b) : FeatsUp w lo (some ⟨b, 0, none⟩) fs := by
  intro w' k
  refine FeatsAt.of_row (h.of_block (k.block b hl h.lt)) fun i hi => ?_
  obtain ⟨x1, x2, x3, x4, x5⟩ := hp i hi
  exact ⟨x1.of_block (k.block _ (by omega) x1.lt), x2.of_block (k.block _ (by omega) x2.lt), x3, x4, x5⟩

/-- a version: what is ahead of it, its map and its note -/
abbrev Cm := List Int × List Ft × ByteArray

def mg (cs : List Cm) (i : Nat) : Cm := cs.getD i ([], [], .empty)
theorem mg_get {cs : List Cm} {i : Nat} (h : i < cs.length) : mg cs i = cs[i] := by simp [mg, h]

/-- three cells of a block that are a version -/
structure CmAt (w : World) (b o : Nat) (c : Cm) (ua : Option Addr) (uc : Nat) (sa : Option Addr) (sc : Nat) : Prop where
  lt : b < w.heap.size
  c0 : w.cell? ⟨b, o, none⟩ = some (.slice ua c.1.length uc)
  c1 : w.cell? ⟨b, o + 1, none⟩ = some (.slice sa c.2.1.length sc)
  c2 : w.cell? ⟨b, o + 2, none⟩ = some (.string c.2.2)
  ints : IntsAt w ua c.1
  feats : FeatsAt w sa c.2.1

theorem CmAt.below {w w' : World} {b o : Nat} {c : Cm} {ua : Option Addr} {uc : Nat} {sa : Option Addr} {sc : Nat} (x : CmAt w b o c ua uc sa sc) (hb : Below w.heap.size w w') : CmAt w' b o c ua uc sa sc :=
  ⟨Nat.lt_of_lt_of_le x.lt hb.size, cell_later hb x.c0, cell_later hb x.c1, cell_later hb x.c2, x.ints.below hb, x.feats.below hb⟩

/-- a slice that reads as versions -/
def CommitsAt (w : World) (a : Option Addr) (cs : List Cm) : Prop :=
  ∀ i, i < cs.length → ∃ b off ua uc sa sc, a = some ⟨b, off, none⟩ ∧ CmAt w b (off + i * 3) (mg cs i) ua uc sa sc

theorem CommitsAt.nil (w : World) (a : Option Addr) : CommitsAt w a [] := fun _ h => absurd h (Nat.not_lt_zero _)

theorem CommitsAt.below {w w' : World} {a : Option Addr} {cs : List Cm} (h : CommitsAt w a cs) (hb : Below w.heap.size w w') : CommitsAt w' a cs := by
  intro i hi
  obtain ⟨b, off, ua, uc, sa, sc, rfl, x⟩ := h i hi
  exact ⟨b, off, ua, uc, sa, sc, rfl, x.below hb⟩

/-- no part of a version is longer than that -/
def CmLen (c : Cm) (m : Int) : Prop := (c.1.length : Int) ≤ m ∧ (c.2.1.length : Int) ≤ m ∧ FeatsLen c.2.1 m ∧ (c.2.2.size : Int) ≤ m
theorem CmLen.mono {c : Cm} {l m : Int} (h : CmLen c l) (hm : l ≤ m) : CmLen c m := ⟨Int.le_trans h.1 hm, Int.le_trans h.2.1 hm, h.2.2.1.mono hm, Int.le_trans h.2.2.2 hm⟩
def CmsLen (cs : List Cm) (m : Int) : Prop := ∀ j, j < cs.length → CmLen (mg cs j) m
theorem CmsLen.mono {cs : List Cm} {l m : Int} (h : CmsLen cs l) (hm : l ≤ m) : CmsLen cs m := fun j hj => (h j hj).mono hm

/-- a list of versions of the laws that came in, none of its parts longer than can be -/
structure CommitsIn (w : World) (a : Option Addr) (cs : List Cm) : Prop where
  reads : CommitsAt w a cs
  len : cs.length ≤ 9223372036854775807
  lens : CmsLen cs 9223372036854775807

theorem CommitsIn.below {w w' : World} {a : Option Addr} {cs : List Cm} (h : CommitsIn w a cs) (hb : Below w.heap.size w w') : CommitsIn w' a cs := ⟨h.reads.below hb, h.len, h.lens⟩

/-- what 'szCommit' answers -/
def SzCm (c : Cm) (left r : Int) : Prop := r = -1 ∨ (0 ≤ r ∧ r ≤ left ∧ CmLen c left)

set_option maxRecDepth 100000 in
set_option maxHeartbeats 2000000 in
theorem szCommit_any (c : Cm) (ua sa : Option Addr) (uc sc : Nat) (left : Int) (w : World) (hi : IntsAt w ua c.1) (hf : FeatsAt w sa c.2.1) (hl : CmLen c 9223372036854775807) (h0 : 0 ≤ left) (h1 : left ≤ 1048576) :
    Calls Tryz.prog 135 #[.agg #[.slice ua c.1.length uc, .slice sa c.2.1.length sc, .string c.2.2], .int .i64 left] w fun e w' => (∃ r, e = .returned (.int .i64 r) ∧ SzCm c left r) ∧ Below w.heap.size w w' := by
  obtain ⟨l1, l2, l3, l4⟩ := hl
  have HL := Lib.hid l3
  have HF := Lib.hid hf
  clear hf l3 hi
  have A1 : Hid (∀ o, Below w.heap.size w (w.alloc o)) := fun o => (Below.refl _ _).alloc (Nat.le_refl _) _
  by_cases e1 : (c.1.length : Int) ≤ left
  · go_enter Tryz.func135, Tryz.ntmps135
    go_wp2_with fail
    refine (szIntS_fits _ _ _ _ _ e1 h1).mono ?_
    rintro e w1 ⟨rfl, rfl⟩
    go_wp2_with fail
    refine (szFeatS_any _ _ _ _ _ ⟨HF.out.below (A1.out _), by omega, HL.out⟩ (by omega) (by omega)).mono ?_
    rintro e w1 ⟨⟨r, rfl, hs⟩, hb1⟩
    have c2 := cell_later hb1 (a := ⟨w.heap.size, 2, none⟩) (v := .string c.2.2) (by simp [go_sem])
    have B1 : Hid (Below w.heap.size w w1) := (A1.out _).trans (hb1.mono (by simp))
    clear hb1
    rcases hs with rfl | ⟨q1, q2, q3, q4⟩
    · go_wp2
      go_ret
      exact ⟨⟨_, rfl, .inl rfl⟩, B1.out⟩
    · have Q4 := Lib.hid q4
      clear q4
      by_cases e3 : (c.2.2.size : Int) ≤ r
      · go_wp2
        go_ret
        exact ⟨⟨_, rfl, .inr ⟨by omega, by omega, e1, by omega, Q4.out.mono (by omega), by omega⟩⟩, B1.out⟩
      · go_wp2
        go_ret
        exact ⟨⟨_, rfl, .inl rfl⟩, B1.out⟩
  · go_enter Tryz.func135, Tryz.ntmps135
    go_wp2_with fail
    refine (szIntS_over _ _ _ _ _ h0 (by omega) h1 (by unfold maxLen; omega)).mono ?_
    rintro e w1 ⟨rfl, rfl⟩
    go_wp2
    go_ret
    exact ⟨⟨_, rfl, .inl rfl⟩, A1.out _⟩

def SzCms (cs : List Cm) (left : Int) (r : Int) : Prop := r = -1 ∨ (0 ≤ r ∧ r ≤ left ∧ (cs.length : Int) ≤ left ∧ CmsLen cs left)

set_option maxRecDepth 100000 in
set_option maxHeartbeats 2000000 in
theorem szCommitS_any (a : Option Addr) (cap : Nat) (cs : List Cm) (left : Int) (w : World) (hf : CommitsIn w a cs) (h0 : 0 ≤ left) (h1 : left ≤ 1048576) :
    Calls Tryz.prog 87 #[.slice a cs.length cap, .int .i64 left] w fun e w' => (∃ r, e = .returned (.int .i64 r) ∧ SzCms cs left r) ∧ Below w.heap.size w w' := by
  obtain ⟨hp, hm, hl⟩ := hf
  have HP := Lib.hid hp
  have HL := Lib.hid hl
  clear hp hl
  by_cases g1 : (cs.length : Int) ≤ left
  · go_enter Tryz.func87, Tryz.ntmps87
    go_wp2
    go_loopw [1, 5] (fun l i wr => ∃ (k : Nat) (r : Int), k ≤ cs.length ∧ i = .int .i64 k ∧ l = .int .i64 r ∧ 0 ≤ r ∧ r ≤ left ∧ Below w.heap.size w wr ∧ ∀ j, j < k → CmLen (mg cs j) left) (fun _ i _ => cs.length - (intOf i).toNat)
    case atStart => exact ⟨0, left - cs.length, Nat.zero_le _, rfl, by simp, by omega, by omega, Below.refl _ _, fun j h => absurd h (Nat.not_lt_zero _)⟩
    case round =>
      obtain ⟨k, r, hk, rfl, rfl, hr0, hr1, hbel, hall⟩ := hrel
      have HA := Lib.hid hall
      have HB := Lib.hid hbel
      have hsz := hbel.size
      clear hall
      by_cases hlt : k < cs.length
      · obtain ⟨b, off, ua, uc, sa, sc, rfl, hx⟩ := HP.out k hlt
        obtain ⟨hb, c0, c1, c2, hii, hff⟩ := hx.below hbel
        have HI := Lib.hid hii
        have HF := Lib.hid hff
        clear hbel hx hii hff
        go_wp2_with fail
        refine (szCommit_any _ _ _ _ _ _ _ HI.out HF.out (HL.out k hlt) hr0 (by omega)).mono ?_
        rintro e w1 ⟨⟨r', rfl, hs⟩, hb1⟩
        have B1 : Hid (Below w.heap.size w w1) := HB.out.trans (hb1.mono hsz)
        clear hb1 c0 c1 c2
        rcases hs with rfl | ⟨g2, g3, g4⟩
        · go_wp2
          go_ret
          exact ⟨⟨_, rfl, .inl rfl⟩, B1.out⟩
        · have G4 := Lib.hid g4
          clear g4
          go_wp2
          go_roundw
          case rel => exact ⟨k + 1, r', by omega, by go_num, rfl, g2, by omega, B1.out, fun j hj => by by_cases e : j = k; (subst e; exact G4.out.mono (by omega)); exact HA.out j (by omega)⟩
          case measure => simp [intOf]; omega
      · obtain rfl : k = cs.length := by omega
        clear hbel
        go_wp2
        go_ret
        exact ⟨⟨_, rfl, .inr ⟨hr0, hr1, g1, HA.out⟩⟩, HB.out⟩
  · go_enter Tryz.func87, Tryz.ntmps87
    go_wp2
    go_ret
    exact ⟨⟨_, rfl, .inl rfl⟩, Below.refl _ _⟩

/-- what 'toCommit' answers: a version whose parts lie in memory of their own -/
def NewCommit (w : World) (c : Cm) (e : Ending) (w' : World) : Prop :=
  ∃ ua uc sa sc, e = .returned (.agg #[.slice ua c.1.length uc, .slice sa c.2.1.length sc, .string c.2.2]) ∧ IntsUp w' (w.heap.size + 3) ua c.1 ∧ FeatsUp w' (w.heap.size + 3) sa c.2.1 ∧ Below w.heap.size w w'

set_option maxRecDepth 100000 in
set_option maxHeartbeats 4000000 in
theorem toCommit_any (c : Cm) (ua sa : Option Addr) (uc sc : Nat) (w : World) (hi : IntsAt w ua c.1) (hf : FeatsAt w sa c.2.1) (hl : CmLen c 1048576) :
    Calls Tryz.prog 140 #[.agg #[.slice ua c.1.length uc, .slice sa c.2.1.length sc, .string c.2.2]] w (NewCommit w c) := by
  obtain ⟨l1, l2, l3, l4⟩ := hl
  have HP := Lib.hid hi
  have HT := Lib.hid hf
  have HL := Lib.hid l3
  clear hi hf l3
  have A3 : Hid (∀ o o' o'', Below w.heap.size w (((w.alloc o).alloc o').alloc o'')) := fun o o' o'' => (((Below.refl _ _).alloc (Nat.le_refl _) _).alloc (by simp) _).alloc (by simp; omega) _
  go_enter Tryz.func140, Tryz.ntmps140
  go_wp2_with fail
  refine (toIntS_any _ _ _ _ (HP.out.below (A3.out _ _ _)) (by omega)).mono ?_
  rintro e w1 ⟨b, rfl, hrow, hb, hbel⟩
  have B1 : Hid (Below w.heap.size w w1) := (A3.out _ _ _).trans (hbel.mono (by simp; omega))
  obtain ⟨hc, hf⟩ := bcell hbel
  have hz := hbel.size
  simp only [World.size_alloc] at hz hb
  have U1 : Hid (IntsUp w1 (w.heap.size + 3) (some ⟨b, 0, none⟩) c.1) := IntsUp.of_row hrow (by omega)
  clear hrow hbel
  have d0 : w1.cell? ⟨w.heap.size + 1 + 1, 0, none⟩ = some (.slice none 0 0) := by rw [hc _ _ (by simp)]; simp [go_sem]
  have d1 : w1.cell? ⟨w.heap.size + 1 + 1, 1, none⟩ = some (.slice none 0 0) := by rw [hc _ _ (by simp)]; simp [go_sem]
  have d2 : w1.cell? ⟨w.heap.size + 1 + 1, 2, none⟩ = some (.string ⟨#[]⟩) := by rw [hc _ _ (by simp)]; simp [go_sem]
  have f0 : w1.frozen? ⟨w.heap.size + 1 + 1, 0, none⟩ = false := by rw [hf _ _ (by simp)]; simp [go_sem]
  have f1 : w1.frozen? ⟨w.heap.size + 1 + 1, 1, none⟩ = false := by rw [hf _ _ (by simp)]; simp [go_sem]
  have f2 : w1.frozen? ⟨w.heap.size + 1 + 1, 2, none⟩ = false := by rw [hf _ _ (by simp)]; simp [go_sem]
  have g0 : w1.cell? ⟨w.heap.size + 1, 0, none⟩ = some (.slice none 0 0) := by rw [hc _ _ (by simp)]; simp [go_sem]
  have g1 : w1.cell? ⟨w.heap.size + 1, 1, none⟩ = some (.slice none 0 0) := by rw [hc _ _ (by simp)]; simp [go_sem]
  have g2 : w1.cell? ⟨w.heap.size + 1, 2, none⟩ = some (.string ⟨#[]⟩) := by rw [hc _ _ (by simp)]; simp [go_sem]
  have k0 : w1.frozen? ⟨w.heap.size + 1, 0, none⟩ = false := by rw [hf _ _ (by simp)]; simp [go_sem]
  have k1 : w1.frozen? ⟨w.heap.size + 1, 1, none⟩ = false := by rw [hf _ _ (by simp)]; simp [go_sem]
  have k2 : w1.frozen? ⟨w.heap.size + 1, 2, none⟩ = false := by rw [hf _ _ (by simp)]; simp [go_sem]
  have a1 : w1.cell? ⟨w.heap.size, 1, none⟩ = some (.slice sa c.2.1.length sc) := by rw [hc _ _ (by simp; omega)]; simp [go_sem]
  have a2 : w1.cell? ⟨w.heap.size, 2, none⟩ = some (.string c.2.2) := by rw [hc _ _ (by simp; omega)]; simp [go_sem]
  clear hc hf
  go_wp2_with fail
  have B2 : Hid (Below w.heap.size w (w1.setCell ⟨w.heap.size + 1 + 1, 0, none⟩ (.slice (some ⟨b, 0, none⟩) c.1.length c.1.length))) := B1.out.setCell (by simp; omega) _
  refine (toFeatS_any _ _ _ _ (HT.out.below B2.out) (by omega) HL.out).mono ?_
  rintro e w2 ⟨b', ad, rfl, hrow2, hpar2, hb2, hbel2⟩
  have U2 : Hid (IntsUp w2 (w.heap.size + 3) (some ⟨b, 0, none⟩) c.1) := U1.out.step (((Keeps.refl _ _).setCell (by simp) _).trans (Keeps.of hbel2))
  have hb2' : w.heap.size + 3 ≤ b' := by simp [World.setCell] at hb2; omega
  have V2 : Hid (FeatsUp w2 (w.heap.size + 3) (some ⟨b', 0, none⟩) c.2.1) := FeatsUp.of_row hrow2 hpar2 hb2'
  have B3 : Hid (Below w.heap.size w w2) := B2.out.trans (hbel2.mono B2.out.size)
  have cc : ∀ (b o : Nat), b < w1.heap.size → w2.cell? ⟨b, o, none⟩ = _ := fun b o hb => hbel2.cell (p := ⟨b, o, none⟩) (by simpa [World.setCell] using hb)
  have ff : ∀ (b o : Nat), b < w1.heap.size → w2.frozen? ⟨b, o, none⟩ = _ := fun b o hb => hbel2.frozen (p := ⟨b, o, none⟩) (by simpa [World.setCell] using hb)
  replace d0 : w2.cell? ⟨w.heap.size + 1 + 1, 0, none⟩ = some (.slice (some ⟨b, 0, none⟩) c.1.length c.1.length) := by rw [cc _ _ (by omega)]; simp [go_sem, d0]
  replace d1 : w2.cell? ⟨w.heap.size + 1 + 1, 1, none⟩ = some (.slice none 0 0) := by rw [cc _ _ (by omega)]; simp [go_sem, d1]
  replace d2 : w2.cell? ⟨w.heap.size + 1 + 1, 2, none⟩ = some (.string ⟨#[]⟩) := by rw [cc _ _ (by omega)]; simp [go_sem, d2]
  replace f1 : w2.frozen? ⟨w.heap.size + 1 + 1, 1, none⟩ = false := by rw [ff _ _ (by omega)]; simp [go_sem, f1]
  replace f2 : w2.frozen? ⟨w.heap.size + 1 + 1, 2, none⟩ = false := by rw [ff _ _ (by omega)]; simp [go_sem, f2]
  replace g0 : w2.cell? ⟨w.heap.size + 1, 0, none⟩ = some (.slice none 0 0) := by rw [cc _ _ (by omega)]; simp [go_sem, g0]
  replace g1 : w2.cell? ⟨w.heap.size + 1, 1, none⟩ = some (.slice none 0 0) := by rw [cc _ _ (by omega)]; simp [go_sem, g1]
  replace g2 : w2.cell? ⟨w.heap.size + 1, 2, none⟩ = some (.string ⟨#[]⟩) := by rw [cc _ _ (by omega)]; simp [go_sem, g2]
  replace k0 : w2.frozen? ⟨w.heap.size + 1, 0, none⟩ = false := by rw [ff _ _ (by omega)]; simp [go_sem, k0]
  replace k1 : w2.frozen? ⟨w.heap.size + 1, 1, none⟩ = false := by rw [ff _ _ (by omega)]; simp [go_sem, k1]
  replace k2 : w2.frozen? ⟨w.heap.size + 1, 2, none⟩ = false := by rw [ff _ _ (by omega)]; simp [go_sem, k2]
  replace a2 : w2.cell? ⟨w.heap.size, 2, none⟩ = some (.string c.2.2) := by rw [cc _ _ (by omega)]; simp [go_sem, a2]
  clear hbel2 hrow2 hpar2 hb2 cc ff f0 a1
  go_wp2
  refine bodyPost_ret (v := .agg #[.slice (some ⟨b, 0, none⟩) c.1.length c.1.length, .slice (some ⟨b', 0, none⟩) c.2.1.length c.2.1.length, .string c.2.2]) (by simp [results, Tryz.results140, go_sem, g0, g1, g2]) rfl ?_
  have K : ∀ v1 v2 v3 v4 v5, Keeps (w.heap.size + 3) w2 (((((w2.setCell ⟨w.heap.size + 1 + 1, 1, none⟩ v1).setCell ⟨w.heap.size + 1 + 1, 2, none⟩ v2).setCell ⟨w.heap.size + 1, 0, none⟩ v3).setCell ⟨w.heap.size + 1, 1, none⟩ v4).setCell ⟨w.heap.size + 1, 2, none⟩ v5) := fun v1 v2 v3 v4 v5 =>
    (((((Keeps.refl _ _).setCell (by simp) _).setCell (by simp) _).setCell (by simp) _).setCell (by simp) _).setCell (by simp) _
  refine ⟨_, _, _, _, rfl, U2.out.step (K _ _ _ _ _), V2.out.step (K _ _ _ _ _), ?_⟩
  exact ((((B3.out.setCell (by simp; omega) _).setCell (by simp; omega) _).setCell (by simp) _).setCell (by simp) _).setCell (by simp) _

theorem infoCommit : (Tryz.prog.info? 54).map (fun i => (i.zero, i.size, i.bytes)) = some (some (.agg #[.slice none 0 0, .slice none 0 0, .string .empty]), 3, 64) := by kernel_rfl

/-- the places of the two parts of a version -/
abbrev Pl2 := (Option Addr × Nat) × (Option Addr × Nat)

/-- a versions' cell by its place; the rows of the parts lie where 'ad' says -/
def commitCell (cs : List Cm) (ad : Nat → Pl2) (j : Nat) : Value :=
  if j % 3 = 0 then .slice (ad (j / 3)).1.1 (mg cs (j / 3)).1.length (ad (j / 3)).1.2
  else if j % 3 = 1 then .slice (ad (j / 3)).2.1 (mg cs (j / 3)).2.1.length (ad (j / 3)).2.2
  else .string (mg cs (j / 3)).2.2

def zeroC (j : Nat) : Value := if j % 3 = 2 then .string .empty else .slice none 0 0

/-- how far a row is filled -/
def filledC (cs : List Cm) (ad : Nat → Pl2) (k j : Nat) : Value := if j < k * 3 then commitCell cs ad j else zeroC j

/-- the places, with one more -/
def pl2Set (ad : Nat → Pl2) (k : Nat) (x : Pl2) : Nat → Pl2 := fun i => if i = k then x else ad i
theorem pl2Set_at (ad : Nat → Pl2) (k : Nat) (x : Pl2) : pl2Set ad k x k = x := if_pos rfl
theorem pl2Set_lt {ad : Nat → Pl2} {k i : Nat} {x : Pl2} (h : i < k) : pl2Set ad k x i = ad i := if_neg (by omega)

theorem filledC_step (cs : List Cm) (ad : Nat → Pl2) (k j : Nat) (x : Pl2) :
    (if j = k * 3 + 2 then .string (mg cs k).2.2 else if j = k * 3 + 1 then .slice x.2.1 (mg cs k).2.1.length x.2.2 else if j = k * 3 then .slice x.1.1 (mg cs k).1.length x.1.2 else filledC cs ad k j) = filledC cs (pl2Set ad k x) (k + 1) j := by
  unfold filledC commitCell
  by_cases h1 : j = k * 3 + 2
  · subst h1
    rw [if_pos rfl, if_pos (by omega), if_neg (by omega), if_neg (by omega), show (k * 3 + 2) / 3 = k by omega]
  · rw [if_neg h1]
    by_cases h2 : j = k * 3 + 1
    · subst h2
      rw [if_pos rfl, if_pos (by omega), if_neg (by omega), if_pos (by omega), show (k * 3 + 1) / 3 = k by omega, pl2Set_at]
    · rw [if_neg h2]
      by_cases h3 : j = k * 3
      · subst h3
        rw [if_pos rfl, if_pos (by omega), if_pos (by omega), show (k * 3) / 3 = k by omega, pl2Set_at]
      · rw [if_neg h3]
        by_cases h5 : j < k * 3
        · have h6 : j < (k + 1) * 3 := by omega
          rw [if_pos h5, if_pos h6, pl2Set_lt (by omega)]
        · rw [if_neg h5, if_neg (by omega)]

theorem made_rowC (w : World) (n : Nat) (t : TypeId) : (w.alloc (.cells (madeCells #[.slice none 0 0, .slice none 0 0, .string .empty] (n * 3)) t)).rowIs w.heap.size t (n * 3) zeroC := by
  have hs : (madeCells #[Value.slice none 0 0, .slice none 0 0, .string .empty] (n * 3)).size = n * 3 := by simp [madeCells]
  have := World.rowIs_alloc w (madeCells #[.slice none 0 0, .slice none 0 0, .string .empty] (n * 3)) t zeroC (by
    intro i hi
    rw [hs] at hi
    simp only [madeCells, Array.getElem?_map, Array.getElem?_range, if_pos hi, Option.map_some]
    have : i % 3 = 0 ∨ i % 3 = 1 ∨ i % 3 = 2 := by omega
    rcases this with h | h | h <;> simp [h, zeroC])
  rwa [hs] at this

/-- the parts of the first versions lie from lo on -/
def PartsC (w : World) (lo : Nat) (cs : List Cm) (ad : Nat → Pl2) (k : Nat) : Prop :=
  ∀ i, i < k → IntsUp w lo (ad i).1.1 (mg cs i).1 ∧ FeatsUp w lo (ad i).2.1 (mg cs i).2.1

theorem PartsC.step {w w' : World} {lo : Nat} {cs : List Cm} {ad : Nat → Pl2} {k : Nat} (h : PartsC w lo cs ad k) (kp : Keeps lo w w') : PartsC w' lo cs ad k := fun i hi => ⟨(h i hi).1.step kp, (h i hi).2.step kp⟩

theorem CommitsAt.of_row {cs : List Cm} {ad : Nat → Pl2} {w : World} {b lo : Nat} {t : TypeId} (h : w.rowIs b t (cs.length * 3) (commitCell cs ad)) (hp : PartsC w lo cs ad cs.length) : CommitsAt w (some ⟨b, 0, none⟩) cs := by
  intro i hi
  refine ⟨b, 0, (ad i).1.1, (ad i).1.2, (ad i).2.1, (ad i).2.2, rfl, h.lt, ?_, ?_, ?_, (hp i hi).1.at, (hp i hi).2.at⟩
  · have := h.cell (i := i * 3) (by omega)
    rw [Nat.zero_add, this]
    unfold commitCell
    rw [if_pos (by omega), show i * 3 / 3 = i by omega]
  · have := h.cell (i := i * 3 + 1) (by omega)
    rw [Nat.zero_add, this]
    unfold commitCell
    rw [if_neg (by omega), if_pos (by omega), show (i * 3 + 1) / 3 = i by omega]
  · have := h.cell (i := i * 3 + 2) (by omega)
    rw [Nat.zero_add, this]
    unfold commitCell
    rw [if_neg (by omega), if_neg (by omega), show (i * 3 + 2) / 3 = i by omega]

/-- versions that lie from lo on -/
def CommitsUp (w : World) (lo : Nat) (a : Option Addr) (cs : List Cm) : Prop := ∀ w', Keeps lo w w' → CommitsAt w' a cs
theorem CommitsUp.at {w : World} {lo : Nat} {a : Option Addr} {cs : List Cm} (h : CommitsUp w lo a cs) : CommitsAt w a cs := h w (Keeps.refl _ _)
theorem CommitsUp.step {w w' : World} {lo : Nat} {a : Option Addr} {cs : List Cm} (h : CommitsUp w lo a cs) (k : Keeps lo w w') : CommitsUp w' lo a cs := fun w2 k2 => h w2 (k.trans k2)
theorem CommitsUp.of_row {cs : List Cm} {ad : Nat → Pl2} {w : World} {b lo : Nat} {t : TypeId} (h : w.rowIs b t (cs.length * 3) (commitCell cs ad)) (hp : PartsC w lo cs ad cs.length) (hl : lo ≤ b) : CommitsUp w lo (some ⟨b, 0, none⟩) cs :=
  fun w' k => CommitsAt.of_row (h.of_block (k.block b hl h.lt)) (hp.step k)

/-- what 'toCommitS' answers: a list of its own -/
def NewCommits (w : World) (cs : List Cm) (e : Ending) (w' : World) : Prop :=
  ∃ a cap, e = .returned (.slice a cs.length cap) ∧ cs.length ≤ cap ∧ CommitsUp w' w.heap.size a cs ∧ Below w.heap.size w w'

set_option maxRecDepth 100000 in
set_option maxHeartbeats 4000000 in
theorem toCommitS_any (a : Option Addr) (cap : Nat) (cs : List Cm) (w : World) (hp : CommitsAt w a cs) (hlen : cs.length ≤ 1048576) (hl : CmsLen cs 1048576) :
    Calls Tryz.prog 93 #[.slice a cs.length cap] w (NewCommits w cs) := by
  obtain ⟨i0, hi, hz0, hz1, hz2⟩ := info_parts infoCommit
  have hmk : ∀ u : World, (Instr.makeSlice 43 (.int .i64 (cs.length : Int)) (.int .i64 (cs.length : Int))).run Tryz.prog u =
      .ok (.slice (some ⟨u.heap.size, 0, none⟩) cs.length cs.length) (u.alloc (.cells (madeCells #[.slice none 0 0, .slice none 0 0, .string .empty] (cs.length * 3)) 54)) := fun u => by
    have h := run_make (P := Tryz.prog) u 43 54 i0 (.agg #[.slice none 0 0, .slice none 0 0, .string .empty]) Tryz.underlying43 hi hz0 .i64 .i64 (cs.length : Int) (cs.length : Int) (by omega) (Int.le_refl _) (by rw [hz2]; omega) (by omega)
    simpa [hz1, Value.cells] using h
  have H0 := Lib.hid hp
  have HL := Lib.hid hl
  clear hp hz0 hz1 hz2 hi hl
  go_enter Tryz.func93, Tryz.ntmps93
  go_wp2
  clear hmk
  go_loopw [4] (fun i wr => ∃ (k : Nat) (ad : Nat → Pl2), k ≤ cs.length ∧ i = .int .i64 k ∧ wr.rowIs w.heap.size 54 (cs.length * 3) (filledC cs ad k) ∧ PartsC wr (w.heap.size + 1) cs ad k ∧ Below w.heap.size w wr) (fun i _ => cs.length - (intOf i).toNat)
  case atStart =>
    refine ⟨0, fun _ => ((none, 0), (none, 0)), Nat.zero_le _, rfl, (made_rowC w cs.length _).congr fun i _ => ?_, fun i hi => absurd hi (Nat.not_lt_zero _), (Below.refl _ _).alloc (Nat.le_refl _) _⟩
    unfold filledC
    rw [if_neg (by omega)]
  case round =>
    obtain ⟨k, ad, hk, rfl, hrow, hpar, hbel⟩ := hrel
    by_cases hlt : k < cs.length
    · obtain ⟨b, off, ua, uc, sa, sc, rfl, hx⟩ := H0.out k hlt
      obtain ⟨hb, c0, c1, c2, hii, hff⟩ := hx.below hbel
      have HR := Lib.hid hrow
      have HB := Lib.hid hbel
      have HPar := Lib.hid hpar
      have HII := Lib.hid hii
      have HFF := Lib.hid hff
      have hwlt := hrow.lt
      clear hrow hbel hpar hii hff hx
      have hsz := HB.out.size
      go_wp2_with fail
      refine (toCommit_any _ _ _ _ _ _ HII.out HFF.out (HL.out k hlt)).mono ?_
      rintro e w1 ⟨ua', uc', sa', sc', rfl, hU, hV, hb1⟩
      have hrow1 : w1.rowIs w.heap.size 54 (cs.length * 3) (filledC cs ad k) := HR.out.of_block (hb1.block _ HR.out.lt)
      have hf1 := hrow1.frozen (k * 3)
      have hf2 := hrow1.frozen (k * 3 + 1)
      have hf3 := hrow1.frozen (k * 3 + 2)
      have hd1 := hrow1.cell (i := k * 3) (by omega)
      have hd2 := hrow1.cell (i := k * 3 + 1) (by omega)
      have hd3 := hrow1.cell (i := k * 3 + 2) (by omega)
      have HR1 := Lib.hid hrow1
      have HB1 := Lib.hid hb1
      have HP1 : Hid (PartsC w1 (w.heap.size + 1) cs (pl2Set ad k ((ua', uc'), (sa', sc'))) (k + 1)) := by
        intro i hi
        by_cases e : i = k
        · subst e
          rw [pl2Set_at]
          exact ⟨hU.mono (by omega), hV.mono (by omega)⟩
        · rw [pl2Set_lt (by omega)]
          exact HPar.out.step (Keeps.of hb1) i (by omega)
      clear hrow1 hb1 hU hV c0 c1 c2
      go_wp2
      go_roundw
      case rel =>
        refine ⟨k + 1, pl2Set ad k ((ua', uc'), (sa', sc')), by omega, by go_num, (((HR1.out.set (k * 3) _).set (k * 3 + 1) _).set (k * 3 + 2) _).congr fun j _ => filledC_step cs ad k j ((ua', uc'), (sa', sc')), HP1.out.step ((((Keeps.refl _ _).setCell (by simp) _).setCell (by simp) _).setCell (by simp) _), ?_⟩
        exact (((HB.out.trans (HB1.out.mono hsz)).setCell (Nat.le_refl _) _).setCell (Nat.le_refl _) _).setCell (Nat.le_refl _) _
      case measure => simp [intOf]; omega
    · have HR := Lib.hid hrow
      have HB := Lib.hid hbel
      have HPar := Lib.hid hpar
      clear hrow hbel hpar
      go_wp2
      go_ret
      obtain rfl : k = cs.length := by omega
      refine ⟨_, _, rfl, Nat.le_refl _, CommitsUp.of_row (ad := ad) (HR.out.congr fun j hj => (by unfold filledC; rw [if_pos hj])) (fun i hi => ⟨(HPar.out i hi).1.mono (by omega), (HPar.out i hi).2.mono (by omega)⟩) (Nat.le_refl _), HB.out⟩
end Go.Proofs.YtdfadpejddhbkaaGreat

namespace Go.Proofs.YtdfadpejddhbkaaGreat
set_option linter.unusedVariables false
open Go.ChangeShapes Go.WideShapes Go.ChangeAt Go.RowKit

def flatI (is : List Int) : List Value := is.map fun x => Value.int .i64 x

/-- a row of numbers that lies from a block on -/
structure GrowI (lo : Nat) (is : List Int) (wr : World) (v : Value) : Prop where
  own : wr.ownsRow lo 3 1 v is.length (flatI is)
  le : lo ≤ wr.heap.size

theorem GrowI.form {lo : Nat} {wr : World} {is : List Int} {v : Value} (h : GrowI lo is wr v) : ∃ a c, v = .slice a is.length c ∧ is.length ≤ c ∧ IntsAt wr a is := by
  obtain ⟨_, ⟨rfl, h2⟩ | ⟨g, cap, cur, rfl, hb, hg, hc, hm, hs, hx⟩⟩ := h.own
  · exact ⟨none, 0, by rw [h2], by omega, fun i hi => by omega⟩
  · refine ⟨some ⟨g, 0, none⟩, cap, rfl, hc, fun i hi => ⟨g, 0, rfl, (Array.getElem?_eq_some_iff.1 hg).1, ?_⟩⟩
    have hv : (flatI is)[i]? = some (.int .i64 (ix is i)) := by simp [flatI, ix, hi]
    rw [← hx, Nat.mul_one, List.getElem?_take, if_pos hi, Array.getElem?_toList] at hv
    simp only [World.cell?, hg, Option.isSome_none, Bool.false_eq_true, if_false, Nat.zero_add]
    exact hv

theorem GrowI.nil {lo : Nat} {w : World} (h : lo ≤ w.heap.size) : GrowI lo [] w (.slice none 0 0) := ⟨⟨rfl, .inl ⟨rfl, rfl⟩⟩, h⟩

theorem GrowI.one (w : World) (x : Int) (lo : Nat) (h : lo ≤ w.heap.size) : GrowI lo [x] (w.alloc (.cells #[.int .i64 x] 3)) (.slice (some ⟨w.heap.size, 0, none⟩) 1 1) :=
  ⟨⟨rfl, .inr ⟨w.heap.size, 1, #[.int .i64 x], rfl, h, heap_alloc_new w _, Nat.le_refl _, by unfold maxLen; omega, rfl, rfl⟩⟩, by simp; omega⟩

theorem GrowI.below {lo : Nat} {w w' : World} {is : List Int} {v : Value} (h : GrowI lo is w v) (hb : Below w.heap.size w w') : GrowI lo is w' v := by
  refine ⟨?_, Nat.le_trans h.le hb.size⟩
  obtain ⟨h1, h2 | ⟨g, cap, cur, rfl, hb', hg, rest⟩⟩ := h.own
  · exact ⟨h1, .inl h2⟩
  · exact ⟨h1, .inr ⟨g, cap, cur, rfl, hb', (hb.block g (Array.getElem?_eq_some_iff.1 hg).1).trans hg, rest⟩⟩

/-- a store into a block below does not touch it -/
theorem GrowI.set {lo : Nat} {w : World} {is : List Int} {v : Value} (h : GrowI lo is w v) {p : Addr} (hp : p.block < lo) (u : Value) : GrowI lo is (w.setCell p u) v := by
  refine ⟨?_, by simpa [World.setCell] using h.le⟩
  obtain ⟨h1, h2 | ⟨g, cap, cur, rfl, hb', hg, rest⟩⟩ := h.own
  · exact ⟨h1, .inl h2⟩
  · exact ⟨h1, .inr ⟨g, cap, cur, rfl, hb', (Below.heap_setCell _ _ _ _ (by omega)).trans hg, rest⟩⟩

/-- the first of them -/
theorem GrowI.take {lo : Nat} {w : World} {is js : List Int} {a : Option Addr} {n c : Nat} (h : GrowI lo (is ++ js) w (.slice a n c)) : GrowI lo is w (.slice a is.length c) := by
  refine ⟨?_, h.le⟩
  obtain ⟨h1, ⟨h2, h3⟩ | ⟨g, cap, cur, e, hb', hg, h4, h5, h6, h7⟩⟩ := h.own
  · simp only [Value.slice.injEq] at h2
    obtain ⟨rfl, rfl, rfl⟩ := h2
    have : is = [] := by cases is; rfl; simp at h3
    subst this
    exact ⟨rfl, .inl ⟨rfl, rfl⟩⟩
  · simp only [Value.slice.injEq] at e
    obtain ⟨rfl, rfl, rfl⟩ := e
    refine ⟨by simp [flatI], .inr ⟨g, c, cur, rfl, hb', hg, by simp at h4; omega, h5, h6, ?_⟩⟩
    have : (cur.toList.take ((is ++ js).length * 1)).take (is.length * 1) = (flatI (is ++ js)).take (is.length * 1) := by rw [h7]
    rw [List.take_take, show min (is.length * 1) ((is ++ js).length * 1) = is.length * 1 by simp] at this
    rw [this]
    simp [flatI]

theorem news_ints {w : World} {b off : Nat} {is : List Int} (h : IntsAt w (some ⟨b, off, none⟩) is) : ∀ j u, (flatI is)[j]? = some u → w.cell? ((⟨b, off, none⟩ : Addr).add j) = some u := by
  intro j u hu
  rw [flatI, List.getElem?_map, Option.map_eq_some_iff] at hu
  obtain ⟨x, hx, rfl⟩ := hu
  obtain ⟨hj, e⟩ := List.getElem?_eq_some_iff.1 hx
  obtain ⟨b', off', he, _, hc⟩ := h j hj
  obtain ⟨rfl, rfl⟩ : b = b' ∧ off = off' := by simpa using he
  rw [ix_get hj, e] at hc
  have hadd : (⟨b, off, none⟩ : Addr).add j = ⟨b, off + j, none⟩ := by unfold Addr.add; split <;> simp_all
  rw [hadd]
  exact hc

theorem run_append_void {P : Program} (w : World) (t ty e : TypeId) (i : TypeInfo) (ht : P.underlying t = some (.slice e)) (hi : P.info? e = some i) (a b : Option Addr) (n c d : Nat) (h : n ≤ c) :
    (Builtin.append_ #[t, t] ty #[.slice a n c, .slice b 0 d]).run P w = .ok (.slice a n c) w := by
  cases a <;> cases b <;> simp [Builtin.append_, run_underlying ht, sizeOf, typeInfo, hi, Builtin.lenOf, Builtin.firstCells, loadCells, loadCellsFrom, storeCells, h]

theorem wpList_append_void {P : Program} (w : World) {ops : Array Oper} {rest : List Oper} {o : Oper} {a : Act} {Q : Exit → Act → World → Prop}
    (hg : o.guard = none) (s x : Operand) (t : TypeId) (hop : o.op = Op.call { callee := Callee.builtin Builtin.append, args := #[s, x], argTypes := #[t, t] }) (e : TypeId) (i : TypeInfo) (ht : P.underlying t = some (.slice e)) (hi : P.info? e = some i)
    (p q : Option Addr) (k c d : Nat) (h : k ≤ c) (hs : a.eval s = .slice p k c) (hx : a.eval x = .slice q 0 d) (hK : wpList P ops Q rest (a.put o.dst (.slice p k c)) w) :
    wpList P ops Q (o :: rest) a w := by
  refine wpList_plain hg fun K hK' => ?_
  have hr := run_append_void (P := P) w t o.type e i ht hi p q k c d h
  unfold Oper.wp execOp
  simp only [hop, resolve, invoke, builtin, Sem.run_bind, Sem.run_pure, Result.andThen_ok, List.map_toArray, List.map_cons, List.map_nil, hs, hx, hr]
  exact hK' _ _ hK

theorem wpList_moreI {ops : Array Oper} {rest : List Oper} {o : Oper} {a : Act} {Q : Exit → Act → World → Prop} {lo : Nat} {W : World} {ml p : List Int} {v : Value} {pr : Option Addr} {cr : Nat}
    (hg : o.guard = none) (s x : Operand) (hop : o.op = Op.call { callee := Callee.builtin Builtin.append, args := #[s, x], argTypes := #[49, 49] })
    (hG : GrowI lo ml W v) (hp : IntsAt W pr p) (hs : a.eval s = v) (hx : a.eval x = .slice pr p.length cr) (hb : ml.length + p.length ≤ 1000000)
    (hK : ∀ r a' c' W', Hid (r = ml ++ p) → W.grownBy W' v.ownBlock → GrowI lo r W' (.slice a' r.length c') → wpList Tryz.prog ops Q rest (a.put o.dst (.slice a' r.length c')) W') :
    wpList Tryz.prog ops Q (o :: rest) a W := by
  obtain ⟨i0, hi, hz0, hz1, hz2⟩ := info_parts infoInt
  by_cases h0 : 0 < p.length
  · obtain ⟨b, off, rfl, hlt, _⟩ := hp 0 h0
    refine wpList_append_lies W hg s x 49 hop lo 3 i0 _ 1 8 Tryz.underlying49 hi hz0 hz1 hz2 rfl (by omega) v ml.length (flatI ml) hs hG.own ⟨b, off, none⟩ p.length cr (flatI p) hx (by simp [flatI]) (news_ints hp) (by simp [flatI, Value.oneCell']) h0 (by unfold maxLen; omega) (by omega) hG.le W.heap.size rfl ?_
    intro g cap w' hown hgrow _ _
    have hf : flatI ml ++ flatI p = flatI (ml ++ p) := by simp [flatI]
    rw [hf, ← List.length_append] at hown
    rw [← List.length_append]
    exact hK _ _ _ _ rfl hgrow ⟨hown, Nat.le_trans hG.le hgrow.size⟩
  · obtain rfl : p = [] := List.eq_nil_of_length_eq_zero (by omega)
    obtain ⟨av, cv, rfl, hcv, _⟩ := hG.form
    refine wpList_append_void W hg s x 49 hop 3 i0 Tryz.underlying49 hi av pr ml.length cv cr hcv hs hx ?_
    exact hK ml av cv W (by show _ = _; rw [List.append_nil]) ⟨rfl, rfl, rfl, Nat.le_refl _, fun _ _ _ => rfl⟩ hG

theorem wpList_moreJ {ops : Array Oper} {rest : List Oper} {o : Oper} {a : Act} {Q : Exit → Act → World → Prop} {lo : Nat} {W : World} {ml p : List Int} {v : Value} {pr : Option Addr} {cr : Nat}
    (hg : o.guard = none) (s x : Operand) (hop : o.op = Op.call { callee := Callee.builtin Builtin.append, args := #[s, x], argTypes := #[49, 49] })
    (hG : GrowI lo ml W v) (hp : IntsAt W pr p) (hs : a.eval s = v) (hx : a.eval x = .slice pr p.length cr) (hb : ml.length + p.length ≤ 1000000)
    (hK : ∀ r a' c' W', Hid (r = ml ++ p) → W.grownBy W' v.ownBlock → GrowI lo r W' (.slice a' r.length c') → Hid (∀ g, (Value.slice a' r.length c').ownBlock = some g → v.ownBlock = some g ∨ g = W.heap.size) → wpList Tryz.prog ops Q rest (a.put o.dst (.slice a' r.length c')) W') :
    wpList Tryz.prog ops Q (o :: rest) a W := by
  obtain ⟨i0, hi, hz0, hz1, hz2⟩ := info_parts infoInt
  by_cases h0 : 0 < p.length
  · obtain ⟨b, off, rfl, hlt, _⟩ := hp 0 h0
    refine wpList_append_lies W hg s x 49 hop lo 3 i0 _ 1 8 Tryz.underlying49 hi hz0 hz1 hz2 rfl (by omega) v ml.length (flatI ml) hs hG.own ⟨b, off, none⟩ p.length cr (flatI p) hx (by simp [flatI]) (news_ints hp) (by simp [flatI, Value.oneCell']) h0 (by unfold maxLen; omega) (by omega) hG.le W.heap.size rfl ?_
    intro g cap w' hown hgrow hat _
    have hf : flatI ml ++ flatI p = flatI (ml ++ p) := by simp [flatI]
    rw [hf, ← List.length_append] at hown
    rw [← List.length_append]
    exact hK _ _ _ _ rfl hgrow ⟨hown, Nat.le_trans hG.le hgrow.size⟩ fun x hx => by cases hx; exact hat
  · obtain rfl : p = [] := List.eq_nil_of_length_eq_zero (by omega)
    obtain ⟨av, cv, rfl, hcv, _⟩ := hG.form
    refine wpList_append_void W hg s x 49 hop 3 i0 Tryz.underlying49 hi av pr ml.length cv cr hcv hs hx ?_
    exact hK ml av cv W (by show _ = _; rw [List.append_nil]) ⟨rfl, rfl, rfl, Nat.le_refl _, fun _ _ _ => rfl⟩ hG fun x hx => .inl hx

/-- the block of a row that lies from a block on -/
theorem GrowI.block {lo : Nat} {is : List Int} {wr : World} {v : Value} (h : GrowI lo is wr v) : ∀ k, v.ownBlock = some k → lo ≤ k := by
  obtain ⟨_, ⟨rfl, _⟩ | ⟨g, cap, cur, rfl, hb, _⟩⟩ := h.own
  · intro k hk; cases hk
  · intro k hk
    cases hk
    exact hb

end Go.Proofs.YtdfadpejddhbkaaGreat

namespace Go.Proofs.YtdfadpejddhbkaaGreat
set_option linter.unusedVariables false
open Go.ChangeShapes Go.WideShapes Go.ChangeAt Go.RowKit Go.Deep

theorem GrowI.made (w : World) : GrowI w.heap.size [] (w.alloc (.cells #[] 3)) (.slice (some ⟨w.heap.size, 0, none⟩) 0 0) :=
  ⟨World.ownsRow_made w #[] 0 (base := w.heap.size) (e := 3) (size := 1) (Nat.le_refl _) (by unfold maxLen; omega) rfl, by simp⟩

set_option maxRecDepth 100000 in
set_option maxHeartbeats 2000000 in
theorem cloneI_any (a : Option Addr) (cap : Nat) (is : List Int) (w : World) (hp : IntsAt w a is) (hl : is.length ≤ 1000000) :
    Calls Tryz.prog 153 #[.slice a is.length cap] w fun e w' => (∃ v, e = .returned v ∧ GrowI w.heap.size is w' v) ∧ Below w.heap.size w w' := by
  have HP := Lib.hid hp
  clear hp
  have heq := fun w => Lib.run_eql_slice_nil (P := Tryz.prog) w 49 3 a is.length cap 0 0 Tryz.underlying49
  have HM := Lib.hid (GrowI.made w)
  have A1 : Hid (∀ o, Below w.heap.size w (w.alloc o)) := fun o => (Below.refl _ _).alloc (Nat.le_refl _) _
  cases a with
  | none =>
    have h0 : is.length = 0 := by
      by_cases h : 0 < is.length
      · obtain ⟨b, off, e, _⟩ := HP.out 0 h
        cases e
      · omega
    obtain rfl : is = [] := List.eq_nil_of_length_eq_zero h0
    clear h0
    rw [show ([] : List Int).length = 0 from rfl] at *
    go_enter Tryz.func153, Tryz.ntmps153
    go_wp2
    go_ret
    exact ⟨⟨_, rfl, GrowI.nil (Nat.le_refl _)⟩, Below.refl _ _⟩
  | some ad =>
    go_enter Tryz.func153, Tryz.ntmps153
    go_wp2_with (at_builtin; refine wpList_moreI (by rfl) _ _ (by rfl) HM.out (HP.out.below (A1.out _)) (by rfl) (by rfl) (by simp; omega) ?_; intro r a2 c2 W2 hr hgrow hG2; have R := Lib.hid hr; have HGR := Lib.hid hgrow; have HG2 := Lib.hid hG2; clear hr hgrow hG2)
    go_ret
    refine ⟨⟨_, rfl, ?_⟩, (A1.out _).grown HGR.out (by simp) fun k hk => HM.out.block k hk⟩
    have h := R.out
    rw [List.nil_append] at h
    rw [← h]
    exact HG2.out
end Go.Proofs.YtdfadpejddhbkaaGreat

namespace Go.Proofs.YtdfadpejddhbkaaGreat
set_option linter.unusedVariables false
open Go.ChangeShapes Go.WideShapes Go.ChangeAt Go.RowKit

/-- a block of these cells, none frozen -/
def BK (w : World) (b : Nat) (cs : Array Value) (t : TypeId) : Prop := w.heap[b]? = some (.cells cs t (0, 0))

theorem BK.new (w : World) (cs : Array Value) (t : TypeId) : BK (w.alloc (.cells cs t)) w.heap.size cs t := heap_alloc_new w _
theorem BK.at (w : World) (cs : Array Value) (t : TypeId) {b : Nat} (h : w.heap.size = b) : BK (w.alloc (.cells cs t)) b cs t := by subst h; exact BK.new w cs t
theorem BK.lt {w : World} {b : Nat} {cs : Array Value} {t : TypeId} (h : BK w b cs t) : b < w.heap.size := (Array.getElem?_eq_some_iff.1 h).1
theorem BK.later {w w' : World} {b : Nat} {cs : Array Value} {t : TypeId} (h : BK w b cs t) (hb : Below w.heap.size w w') : BK w' b cs t := (hb.block _ h.lt).trans h
theorem BK.alloc {w : World} {b : Nat} {cs : Array Value} {t : TypeId} (h : BK w b cs t) (o : Obj) : BK (w.alloc o) b cs t := h.later ((Below.refl _ _).alloc (Nat.le_refl _) _)
theorem BK.drew {w : World} {b : Nat} {cs : Array Value} {t : TypeId} (h : BK w b cs t) : BK w.drew b cs t := h
theorem BK.cell {w : World} {b : Nat} {cs : Array Value} {t : TypeId} (h : BK w b cs t) (i : Nat) {v : Value} (hv : cs[i]? = some v) : w.cell? ⟨b, i, none⟩ = some v := by
  simp only [World.cell?, show w.heap[b]? = _ from h, Option.isSome_none, Bool.false_eq_true, if_false]
  exact hv
theorem BK.frozen {w : World} {b : Nat} {cs : Array Value} {t : TypeId} (h : BK w b cs t) (i : Nat) : w.frozen? ⟨b, i, none⟩ = false := by
  simp [World.frozen?, show w.heap[b]? = _ from h]
theorem BK.set {w : World} {b : Nat} {cs : Array Value} {t : TypeId} (h : BK w b cs t) (i : Nat) (v : Value) : BK (w.setCell ⟨b, i, none⟩ v) b (cs.setIfInBounds i v) t := by
  simp only [BK, World.setCell, Array.getElem?_modify, show w.heap[b]? = _ from h]
  simp [Option.map]
theorem BK.setOther {w : World} {b c : Nat} {cs : Array Value} {t : TypeId} (h : BK w b cs t) (i : Nat) (v : Value) (hne : c ≠ b) : BK (w.setCell ⟨c, i, none⟩ v) b cs t := by
  show (w.setCell ⟨c, i, none⟩ v).heap[b]? = _
  exact (Below.heap_setCell _ _ _ _ (fun e => hne e.symm)).trans h

end Go.Proofs.YtdfadpejddhbkaaGreat

namespace Go.Proofs.YtdfadpejddhbkaaGreat
set_option linter.unusedVariables false
open Go.ChangeShapes Go.WideShapes Go.ChangeAt Go.RowKit Go.Deep

/-- what a copy of a version answers: its Up and its things in memory of their own -/
def CmAns (w : World) (c : Cm) (uv sv : Value) (ad : Nat → Pl) (w' : World) : Prop :=
  GrowI w.heap.size c.1 w' uv ∧ Built w' w.heap.size sv c.2.1.length c.2.1 ad ∧ (∀ x, uv.ownBlock = some x → ¬ sv.ownBlock = some x ∧ ∀ i, i < c.2.1.length → ¬ inPart (ad i) x) ∧ Below w.heap.size w w'

theorem Built.low {w : World} {lo lo' : Nat} {v : Value} {k : Nat} {fs : List Ft} {ad : Nat → Pl} (h : Built w lo v k fs ad) (hl : lo' ≤ lo) : Built w lo' v k fs ad :=
  ⟨ownsRow_base h.row hl, h.pts, h.tags, fun i hi x hx => ⟨Nat.le_trans hl (h.rng i hi x hx).1, (h.rng i hi x hx).2⟩, h.two, h.far⟩

theorem GrowI.low2 {lo lo' : Nat} {w : World} {is : List Int} {v : Value} (h : GrowI lo is w v) (hl : lo' ≤ lo) : GrowI lo' is w v := by
  obtain ⟨⟨h1, h2⟩, h3⟩ := h
  refine ⟨⟨h1, h2.imp id ?_⟩, by omega⟩
  rintro ⟨g, cap, cur, q1, q2, q3⟩
  exact ⟨g, cap, cur, q1, by omega, q3⟩

theorem cmAns_a {W w1 w2 : World} {c : Cm} {uv sv : Value} {ad : Nat → Pl} (hg : GrowI W.heap.size c.1 w1 uv) (h1 : Below W.heap.size W w1) (hb : Built w2 w1.heap.size sv c.2.1.length c.2.1 ad) (h2 : Below w1.heap.size w1 w2) : CmAns W c uv sv ad w2 := by
  refine ⟨hg.below h2, hb.low h1.size, fun x hx => ?_, h1.trans (h2.mono h1.size)⟩
  have hlt := (hg.own.lt x hx).2
  exact ⟨fun e => by have := (hb.row.lt x e).1; omega, fun i hi e => by have := (hb.rng i hi x e).1; omega⟩

theorem cmAns_b {W w1 w2 : World} {c : Cm} {uv sv : Value} {ad : Nat → Pl} (hb : Built w1 W.heap.size sv c.2.1.length c.2.1 ad) (h1 : Below W.heap.size W w1) (hg : GrowI w1.heap.size c.1 w2 uv) (h2 : Below w1.heap.size w1 w2) : CmAns W c uv sv ad w2 := by
  refine ⟨hg.low2 h1.size, hb.below h2, fun x hx => ?_, h1.trans (h2.mono h1.size)⟩
  have hge := hg.block x hx
  exact ⟨fun e => by have := (hb.row.lt x e).2; omega, fun i hi e => by have := (hb.rng i hi x e).2.1; omega⟩

theorem Built.set {w : World} {lo : Nat} {v : Value} {k : Nat} {fs : List Ft} {ad : Nat → Pl} (h : Built w lo v k fs ad) {b o : Nat} (hp : b < lo) (u : Value) : Built (w.setCell ⟨b, o, none⟩ u) lo v k fs ad := by
  have nb : ∀ i, i < k → ∀ x, inPart (ad i) x → x ≠ b := fun i hi x hx e => by have := (h.rng i hi x hx).1; omega
  refine ⟨?_, fun i hi => ⟨(h.pts i hi).1.set fun e => nb i hi b (.inl e) rfl, (h.pts i hi).2.set _ _⟩, fun i hi => ⟨(h.tags i hi).1.set fun e => nb i hi b (.inr e) rfl, (h.tags i hi).2.set _ _⟩, fun i hi x hx => by simpa [World.setCell] using h.rng i hi x hx, h.two, h.far⟩
  obtain ⟨h1, h2 | ⟨g, cap, cur, rfl, hb', hg, rest⟩⟩ := h.row
  · exact ⟨h1, .inl h2⟩
  · exact ⟨h1, .inr ⟨g, cap, cur, rfl, hb', (Below.heap_setCell _ _ _ _ (by show g ≠ b; omega)).trans hg, rest⟩⟩

theorem Built.form {w : World} {lo : Nat} {v : Value} {k : Nat} {fs : List Ft} {ad : Nat → Pl} (h : Built w lo v k fs ad) : ∃ a c, v = .slice a k c := by
  obtain ⟨_, ⟨rfl, h2⟩ | ⟨g, cap, cur, rfl, _⟩⟩ := h.row
  · exact ⟨none, 0, by rw [h2]⟩
  · exact ⟨_, _, rfl⟩

theorem CmAns.set {w' : World} {lo : Nat} {c : Cm} {uv sv : Value} {ad : Nat → Pl} (h : GrowI lo c.1 w' uv ∧ Built w' lo sv c.2.1.length c.2.1 ad) {b o : Nat} (hp : b < lo) (u : Value) : GrowI lo c.1 (w'.setCell ⟨b, o, none⟩ u) uv ∧ Built (w'.setCell ⟨b, o, none⟩ u) lo sv c.2.1.length c.2.1 ad := ⟨h.1.set hp u, h.2.set hp u⟩

set_option maxRecDepth 100000 in
set_option maxHeartbeats 4000000 in
theorem commitCopy_any (c : Cm) (ua : Option Addr) (uc : Nat) (sa : Option Addr) (sc : Nat) (w : World) (hu : IntsAt w ua c.1) (hs : FeatsAt w sa c.2.1) (hul : c.1.length ≤ 1000000) (hsl : c.2.1.length ≤ 1048576) (hL : FeatsLen c.2.1 1048576) :
    Calls Tryz.prog 113 #[.agg #[.slice ua c.1.length uc, .slice sa c.2.1.length sc, .string c.2.2]] w fun e w' => ∃ uv sv ad, e = .returned (.agg #[uv, sv, .string c.2.2]) ∧ CmAns w c uv sv ad w' := by
  have HU := Lib.hid hu
  have HS := Lib.hid hs
  have HL := Lib.hid hL
  clear hu hs hL
  go_enter Tryz.func113, Tryz.ntmps113
  go_upto_region 1 with (fail)
  obtain ⟨W, hW⟩ : ∃ W, W = ((w.alloc (.cells #[.slice ua c.1.length uc, .slice sa c.2.1.length sc, .string c.2.2] 54)).alloc (.cells #[.slice none 0 0, .slice none 0 0, .string ⟨#[]⟩] 54)) := ⟨_, rfl⟩
  rw [← hW]
  have B0 : Hid (Below w.heap.size w W) := by rw [hW]; exact ((Below.refl _ _).alloc (Nat.le_refl _) _).alloc (by simp) _
  have hz : W.heap.size = w.heap.size + 1 + 1 := by rw [hW]; simp
  have KA : Hid (BK W w.heap.size #[.slice ua c.1.length uc, .slice sa c.2.1.length sc, .string c.2.2] 54) := by rw [hW]; exact (BK.new _ _ _).alloc _
  have KB : Hid (BK W (w.heap.size + 1) #[.slice none 0 0, .slice none 0 0, .string ⟨#[]⟩] 54) := by rw [hW]; exact BK.at _ _ _ (by simp)
  have zW : w.heap.size + 1 < W.heap.size := by omega
  have SOF : Hid (∀ wy, Kept1 W (w.heap.size + 1) wy → wy.cell? ⟨w.heap.size, 0, none⟩ = some (.slice ua c.1.length uc) ∧ wy.cell? ⟨w.heap.size, 1, none⟩ = some (.slice sa c.2.1.length sc) ∧ wy.cell? ⟨w.heap.size, 2, none⟩ = some (.string c.2.2) ∧ wy.cell? ⟨w.heap.size + 1, 0, none⟩ = some (cellOf wy (w.heap.size + 1) 0) ∧ wy.cell? ⟨w.heap.size + 1, 1, none⟩ = some (cellOf wy (w.heap.size + 1) 1) ∧ wy.cell? ⟨w.heap.size + 1, 2, none⟩ = some (cellOf wy (w.heap.size + 1) 2) ∧ wy.frozen? ⟨w.heap.size + 1, 0, none⟩ = false ∧ wy.frozen? ⟨w.heap.size + 1, 1, none⟩ = false ∧ wy.frozen? ⟨w.heap.size + 1, 2, none⟩ = false ∧ Kept1 W (w.heap.size + 1) wy) := by
    intro wy hb
    have far : ∀ {x o : Nat} {u : Value}, W.cell? ⟨x, o, none⟩ = some u → x ≠ w.heap.size + 1 → wy.cell? ⟨x, o, none⟩ = some u := fun h hne => (hb.grown.cell_far _ (World.block_lt_of_cell? _ _ h) (by simpa using hne)).trans h
    have hf : ∀ o, wy.frozen? ⟨w.heap.size + 1, o, none⟩ = false := fun o => (hb.soft _ (by show w.heap.size + 1 < _; omega)).trans (KB.out.frozen o)
    exact ⟨far (KA.out.cell 0 rfl) (by omega), far (KA.out.cell 1 rfl) (by omega), far (KA.out.cell 2 rfl) (by omega), cellOf_some (hb.some _ (by rw [KB.out.cell 0 rfl]; rfl)), cellOf_some (hb.some _ (by rw [KB.out.cell 1 rfl]; rfl)), cellOf_some (hb.some _ (by rw [KB.out.cell 2 rfl]; rfl)), hf 0, hf 1, hf 2, hb⟩
  have m1 : ¬ w.heap.size = w.heap.size + 1 := by omega
  have m2 : ¬ w.heap.size + 1 = w.heap.size := by omega
  clear hW
  go_cut [11] (fun _ wx => ∃ uv sv ad, wx.cell? ⟨w.heap.size + 1, 0, none⟩ = some uv ∧ wx.cell? ⟨w.heap.size + 1, 1, none⟩ = some sv ∧ wx.cell? ⟨w.heap.size + 1, 2, none⟩ = some (.string c.2.2) ∧ CmAns w c uv sv ad wx)
  case first =>
    go_region_held3 (fun wy => wy.cell? ⟨w.heap.size, 0, none⟩ = some (.slice ua c.1.length uc) ∧ wy.cell? ⟨w.heap.size, 1, none⟩ = some (.slice sa c.2.1.length sc) ∧ wy.cell? ⟨w.heap.size, 2, none⟩ = some (.string c.2.2) ∧ wy.cell? ⟨w.heap.size + 1, 0, none⟩ = some (cellOf wy (w.heap.size + 1) 0) ∧ wy.cell? ⟨w.heap.size + 1, 1, none⟩ = some (cellOf wy (w.heap.size + 1) 1) ∧ wy.cell? ⟨w.heap.size + 1, 2, none⟩ = some (cellOf wy (w.heap.size + 1) 2) ∧ wy.frozen? ⟨w.heap.size + 1, 0, none⟩ = false ∧ wy.frozen? ⟨w.heap.size + 1, 1, none⟩ = false ∧ wy.frozen? ⟨w.heap.size + 1, 2, none⟩ = false ∧ Kept1 W (w.heap.size + 1) wy)
      (first
        | exact SOF.out _ (Kept1.refl zW).drew
        | (go_split_ands
           rename_i hS
           exact SOF.out _ (hS.below hbn))
        | (go_split_ands
           rename_i hS
           exact SOF.out _ (((hS.set _ _).set _ _).set _ _)))
      (first
        | (go_at_call 153
           refine (cloneI_any ua uc c.1 _ ?_ hul).mono ?_
           · (go_split_ands; rename_i hS; exact HU.out.below (hS.under B0.out))
           rintro e wn ⟨⟨uv, rfl, hgu⟩, hbn⟩
           obtain ⟨a2, c2, rfl, _, _⟩ := hgu.form)
        | (go_at_call 100
           refine (sheetCopy_any sa sc c.2.1 _ ?_ hsl HL.out).mono ?_
           · (go_split_ands; rename_i hS; exact HS.out.below (hS.under B0.out))
           rintro e wn ⟨⟨sv, ad, rfl, hgs⟩, hbn⟩
           obtain ⟨a3, c3, rfl⟩ := hgs.form))
    all_goals
      go_wp2_with fail
      go_meet
      have hA := cmAns_a hgu (by assumption) hgs hbn
      have hW := drewBelow hA.2.2.2
      have K := (((KB.out.later hW).set 0 (.slice a2 c.1.length c2)).set 1 (.slice a3 c.2.1.length c3)).set 2 (.string c.2.2)
      have h1 := CmAns.set (CmAns.set (CmAns.set ⟨hA.1, hA.2.1⟩ (b := w.heap.size + 1) zW (.slice a2 c.1.length c2) (o := 0)) (b := w.heap.size + 1) zW (.slice a3 c.2.1.length c3) (o := 1)) (b := w.heap.size + 1) zW (.string c.2.2) (o := 2)
      exact ⟨_, _, ad, K.cell 0 (v := .slice a2 c.1.length c2) rfl, K.cell 1 (v := .slice a3 c.2.1.length c3) rfl, K.cell 2 (v := .string c.2.2) rfl, h1.1.low2 B0.out.size, h1.2.low B0.out.size, hA.2.2.1, (((B0.out.trans (hW.mono B0.out.size)).setCell (by simp) _).setCell (by simp) _).setCell (by simp) _⟩
  case rest =>
    obtain ⟨uv, sv, ad, r0, r1, r2, hA⟩ := hcut
    go_wp2
    refine bodyPost_ret (v := .agg #[uv, sv, .string c.2.2]) (by simp [results, Tryz.results113, go_sem, r0, r1, r2]) rfl ?_
    exact ⟨uv, sv, ad, rfl, hA⟩
end Go.Proofs.YtdfadpejddhbkaaGreat

namespace Go.Proofs.YtdfadpejddhbkaaGreat
set_option linter.unusedVariables false
open Go.ChangeShapes Go.WideShapes Go.ChangeAt Go.RowKit

def marksI (k : Int) (n : Nat) : List Int := (List.range n).map fun (i : Nat) => k + (i : Int)
theorem marksI_len (k : Int) (n : Nat) : (marksI k n).length = n := by simp [marksI]
theorem marksI_at (k : Int) {n i : Nat} (h : i < n) : ix (marksI k n) i = k + (i : Int) := by simp [ix, marksI, h]

theorem GrowI.rows {lo : Nat} {w : World} {is : List Int} {v : Value} (h : GrowI lo is w v) : (v = .slice none 0 0 ∧ is = []) ∨
    ∃ g cap f, v = .slice (some ⟨g, 0, none⟩) is.length cap ∧ is.length ≤ cap ∧ cap ≤ maxLen ∧ lo ≤ g ∧ w.rowIs g 3 cap f ∧ ∀ i, i < is.length → f i = .int .i64 (ix is i) := by
  obtain ⟨h1, ⟨h2, h3⟩ | ⟨g, cap, cur, h2, hb, hg, h4, h5, h6, h7⟩⟩ := h.own
  · exact .inl ⟨h2, List.eq_nil_of_length_eq_zero h3⟩
  · refine .inr ⟨g, cap, fun i => (cur[i]?).getD undef, h2, h4, h5, hb, ⟨cur, hg, by omega, fun i hi => ?_⟩, fun i hi => ?_⟩
    · have hi' : i < cur.size := by omega
      simp [hi']
    · have hv : (flatI is)[i]? = some (.int .i64 (ix is i)) := by simp [flatI, ix, hi]
      rw [← h7, Nat.mul_one, List.getElem?_take, if_pos hi, Array.getElem?_toList] at hv
      show (cur[i]?).getD undef = _
      rw [hv]
      rfl

theorem GrowI.of_rows {lo : Nat} {w : World} {is : List Int} {g cap : Nat} {f : Nat → Value} (hr : w.rowIs g 3 cap f) (hf : ∀ i, i < is.length → f i = .int .i64 (ix is i)) (hn : is.length ≤ cap) (hm : cap ≤ maxLen) (hl : lo ≤ g) : GrowI lo is w (.slice (some ⟨g, 0, none⟩) is.length cap) := by
  have hlt := hr.lt
  obtain ⟨c, hg, hs, hc⟩ := hr
  refine ⟨⟨by simp [flatI], .inr ⟨g, cap, c, rfl, hl, hg, hn, hm, by omega, ?_⟩⟩, by omega⟩
  refine List.ext_getElem? fun i => ?_
  rw [Nat.mul_one, List.getElem?_take]
  by_cases hi : i < is.length
  · rw [if_pos hi, Array.getElem?_toList, hc i (by omega), hf i hi]
    simp [flatI, ix, hi]
  · rw [if_neg hi]
    refine (List.getElem?_eq_none ?_).symm
    simp only [flatI, List.length_map]
    omega

set_option maxRecDepth 100000 in
set_option maxHeartbeats 2000000 in
theorem markIntS_any (lo : Nat) (is : List Int) (v : Value) (k : Int) (w : World) (h : GrowI lo is w v) (hl : is.length ≤ 1048576) (h0 : 0 ≤ k) (h4 : k ≤ 1000000000000000) :
    Calls Tryz.prog 150 #[v, .int .i64 k] w fun e w' => e = .returned (.int .i64 (k + is.length)) ∧ GrowI lo (marksI k is.length) w' v ∧ Turned w w' (fun x => v.ownBlock = some x) := by
  rcases h.rows with ⟨rfl, rfl⟩ | ⟨g, cap, f, rfl, h1, h2, h3, hr, hf⟩
  · go_enter Tryz.func150, Tryz.ntmps150
    go_wp2
    go_loop [1, 5] (fun s1 i => s1 = .int .i64 k ∧ i = .int .i64 0) (fun _ _ => 0)
    case atStart => exact ⟨rfl, rfl⟩
    case round =>
      obtain ⟨rfl, rfl⟩ := hrel
      go_wp2
      go_ret
      exact ⟨by simp, h, Turned.refl _ _⟩
  · have HR := Lib.hid hr
    have HF := Lib.hid hf
    clear hr hf h
    go_enter Tryz.func150, Tryz.ntmps150
    go_wp2
    go_loopw [1, 5] (fun s1 i wr => ∃ j : Nat, j ≤ is.length ∧ s1 = .int .i64 (k + j) ∧ i = .int .i64 j ∧ wr.rowIs g 3 cap (fun i => if i < j then .int .i64 (k + i) else f i) ∧ Turned w wr (fun x => some g = some x)) (fun _ i _ => is.length - (intOf i).toNat)
    case atStart => exact ⟨0, Nat.zero_le _, by simp, rfl, HR.out.congr fun i _ => by simp, Turned.refl _ _⟩
    case round =>
      obtain ⟨j, hj, rfl, rfl, hrow, ht⟩ := hrel
      have HRo := Lib.hid hrow
      have HT := Lib.hid ht
      by_cases hlt : j < is.length
      · have hd := hrow.cell (i := j) (by omega)
        rw [if_neg (by omega), HF.out j hlt] at hd
        have hfz := hrow.frozen j
        clear hrow ht
        go_wp2
        go_roundw
        case rel => exact ⟨j + 1, by omega, by go_num, by go_num, (HRo.out.set j _).congr fun i _ => (by
          by_cases e : i = j
          · subst e; simp
          · by_cases e2 : i < j
            · rw [if_neg e, if_pos e2, if_pos (by omega)]
            · rw [if_neg e, if_neg e2, if_neg (by omega)]), HT.out.trans (Turned.of_set _ _ _ rfl)⟩
        case measure => simp [intOf]; omega
      · obtain rfl : j = is.length := by omega
        have G : Hid (GrowI lo (marksI k is.length) wr (.slice (some ⟨g, 0, none⟩) is.length cap)) := by
          have := GrowI.of_rows (lo := lo) (is := marksI k is.length) hrow (fun i hi => by
            rw [marksI_len] at hi
            rw [if_pos hi, marksI_at k hi]) (by rw [marksI_len]; exact h1) h2 h3
          rwa [marksI_len] at this
        clear hrow ht
        go_wp2
        go_ret
        exact ⟨rfl, G.out, HT.out⟩

set_option maxRecDepth 100000 in
set_option maxHeartbeats 2000000 in
theorem heldIntS_any (a : Option Addr) (cap n : Nat) (k : Int) (w : World) (hp : IntsAt w a (marksI k n)) (hl : n ≤ 1048576) (h0 : 0 ≤ k) (h4 : k ≤ 1000000000000000) :
    Calls Tryz.prog 151 #[.slice a n cap, .int .i64 k] w fun e w' => e = .returned (.int .i64 (k + n)) ∧ w = w' := by
  have HP := Lib.hid hp
  clear hp
  go_enter Tryz.func151, Tryz.ntmps151
  go_wp2
  go_loop [1, 5] (fun s1 i => ∃ j : Nat, j ≤ n ∧ s1 = .int .i64 (k + j) ∧ i = .int .i64 j) (fun _ i => n - (intOf i).toNat)
  case atStart => exact ⟨0, Nat.zero_le _, by simp, rfl⟩
  case round =>
    obtain ⟨j, hj, rfl, rfl⟩ := hrel
    by_cases hlt : j < n
    · obtain ⟨b, off, rfl, hb, hc⟩ := HP.out j (by rw [marksI_len]; exact hlt)
      rw [marksI_at k hlt] at hc
      have e1 : ((k + (j : Int)) != (k + (j : Int))) = false := by simp
      go_wp2
      go_round
      case rel => exact ⟨j + 1, by omega, by go_num, by go_num⟩
      case measure => simp [intOf]; omega
    · obtain rfl : j = n := by omega
      go_wp2
      go_ret
      exact ⟨rfl, rfl⟩
end Go.Proofs.YtdfadpejddhbkaaGreat
