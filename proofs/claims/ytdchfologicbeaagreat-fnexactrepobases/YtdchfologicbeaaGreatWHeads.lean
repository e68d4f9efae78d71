/- Proved here: contracts of the small functions over branches: size, copy, comparison; lists of at most 1,048,576 branches. -/
import Derived.Test.YtdchfologicbeaaGreatWTag
import Derived.StillTailTactics
namespace Go.Proofs.YtdchfologicbeaaGreat
set_option linter.unusedVariables false
open Go.ChangeShapes Go.WideShapes Go.ChangeAt Go.RowKit

/-- a branch: its name and its version -/
abbrev Hd := ByteArray × Int

def hdn (hs : List Hd) (i : Nat) : ByteArray := (hs.getD i (.empty, 0)).1
def hda (hs : List Hd) (i : Nat) : Int := (hs.getD i (.empty, 0)).2

theorem hd_of (hs : List Hd) (i : Nat) : hs.getD i (.empty, 0) = (hdn hs i, hda hs i) := rfl
theorem hd_get {hs : List Hd} {i : Nat} (h : i < hs.length) : hs[i] = (hdn hs i, hda hs i) := by simp [hdn, hda, h]

/-- two branches are one -/
def hdEq (p q : Hd) : Bool := decide (p = q)
def hdsEq (hs gs : List Hd) : Bool := decide (hs = gs)

theorem hdsEq_of {hs gs : List Hd} (hl : hs.length = gs.length) (h : ∀ j, j < hs.length → hdn hs j = hdn gs j ∧ hda hs j = hda gs j) : hdsEq hs gs = true := by
  unfold hdsEq
  rw [decide_eq_true_iff]
  refine List.ext_getElem hl fun i h1 h2 => ?_
  have := h i h1
  rw [hd_get h1, hd_get h2, this.1, this.2]

theorem hdsEq_ne {hs gs : List Hd} {j : Nat} (h : ¬ (hdn hs j = hdn gs j ∧ hda hs j = hda gs j)) : hdsEq hs gs = false := by
  unfold hdsEq
  rw [decide_eq_false_iff_not]
  rintro rfl
  exact h ⟨rfl, rfl⟩

theorem hdsEq_len {hs gs : List Hd} (h : hs.length ≠ gs.length) : hdsEq hs gs = false := by
  unfold hdsEq
  rw [decide_eq_false_iff_not]
  rintro rfl
  exact h rfl

/-- a slice that reads as branches -/
def HeadsAt (w : World) (a : Option Addr) (hs : List Hd) : Prop :=
  ∀ i, i < hs.length → ∃ b off, a = some ⟨b, off, none⟩ ∧ b < w.heap.size ∧ w.cell? ⟨b, off + i * 2, none⟩ = some (.string (hdn hs i)) ∧ w.cell? ⟨b, off + i * 2 + 1, none⟩ = some (.int .i64 (hda hs i))

theorem HeadsAt.nil (w : World) (a : Option Addr) : HeadsAt w a [] := fun _ h => absurd h (Nat.not_lt_zero _)

theorem HeadsAt.below {w w' : World} {a : Option Addr} {hs : List Hd} (h : HeadsAt w a hs) (hb : Below w.heap.size w w') : HeadsAt w' a hs := by
  intro i hi
  obtain ⟨b, off, rfl, hlt, h1, h2⟩ := h i hi
  exact ⟨b, off, rfl, Nat.lt_of_lt_of_le hlt hb.size, by rw [hb.cell (p := ⟨b, _, none⟩) hlt]; exact h1, by rw [hb.cell (p := ⟨b, _, none⟩) hlt]; exact h2⟩

/-- the names of branches are no longer than that -/
def HeadsLen (hs : List Hd) (m : Int) : Prop := ∀ j, j < hs.length → ((hdn hs j).size : Int) ≤ m
theorem HeadsLen.mono {hs : List Hd} {l m : Int} (h : HeadsLen hs l) (hm : l ≤ m) : HeadsLen hs m := fun j hj => Int.le_trans (h j hj) hm

def SzHeads (hs : List Hd) (left : Int) (r : Int) : Prop := r = -1 ∨ (0 ≤ r ∧ r ≤ left ∧ (hs.length : Int) ≤ left ∧ HeadsLen hs left)

set_option maxHeartbeats 400000 in
theorem toHead_any (x : ByteArray) (y : Int) (w : World) :
    Calls Tryz.prog 166 #[.agg #[.string x, .int .i64 y]] w fun e w' => e = .returned (.agg #[.string x, .int .i64 y]) ∧ Below w.heap.size w w' := by
  go_enter Tryz.func166, Tryz.ntmps166
  go_wp2
  refine bodyPost_ret (v := .agg #[.string x, .int .i64 y]) (by simp [results, Tryz.results166, go_sem]) rfl ⟨rfl, ?_⟩
  exact (((Below.refl _ _).alloc (Nat.le_refl _) _).alloc (by simp) _).alloc (by simp; omega) _

set_option maxHeartbeats 400000 in
theorem eqHead_any (x a : ByteArray) (y b : Int) (w : World) :
    Calls Tryz.prog 170 #[.agg #[.string x, .int .i64 y], .agg #[.string a, .int .i64 b]] w fun e w' => e = .returned (.bool (hdEq (x, y) (a, b))) ∧ Below w.heap.size w w' := by
  have e1 := bytes_beq x a
  by_cases h1 : x = a
  · rw [decide_eq_true h1] at e1
    by_cases h2 : y = b
    · have HS : Hid (hdEq (x, y) (a, b) = true) := by simp [Hid, hdEq, h1, h2]
      have e2 : (y != b) = false := by simp [h2]
      clear h1 h2
      go_enter Tryz.func170, Tryz.ntmps170
      go_wp2
      go_ret
      exact ⟨by rw [HS.out]; rfl, ((Below.refl _ _).alloc (Nat.le_refl _) _).alloc (by simp) _⟩
    · have HS : Hid (hdEq (x, y) (a, b) = false) := by simp [Hid, hdEq, h2]
      have e2 : (y != b) = true := by simp [h2]
      clear h1 h2
      go_enter Tryz.func170, Tryz.ntmps170
      go_wp2
      go_ret
      exact ⟨by rw [HS.out]; rfl, ((Below.refl _ _).alloc (Nat.le_refl _) _).alloc (by simp) _⟩
  · rw [decide_eq_false h1] at e1
    have HS : Hid (hdEq (x, y) (a, b) = false) := by simp [Hid, hdEq, h1]
    clear h1
    go_enter Tryz.func170, Tryz.ntmps170
    go_wp2
    go_ret
    exact ⟨by rw [HS.out]; rfl, ((Below.refl _ _).alloc (Nat.le_refl _) _).alloc (by simp) _⟩

theorem run_hdEql (x a : ByteArray) (y b : Int) (w : World) : (binOp .eql 138 (.agg #[.string x, .int .i64 y]) (.agg #[.string a, .int .i64 b])).run Tryz.prog w = .ok (.bool (hdEq (x, y) (a, b))) w := by
  have u3 := Tryz.underlying9
  have a3 := Tryz.isAgg9
  have z3 := Tryz.sizeOf9
  have v3 := Tryz.underlying3
  have b3 := Tryz.isAgg3
  have y3 := Tryz.sizeOf3
  have hS : Tryz.prog.underlying 138 = some (.struct (Tryz.prog.fieldsOf 138)) := by kernel_rfl
  have hp : Tryz.prog.stoodInHeld 138 = false := by kernel_rfl
  rw [run_eql_struct, show (10000 : Nat) = 9999 + 1 from rfl, run_equalIn_agg w 9999 138 _ _ hS hp]
  simp only [Program.fieldsOf, Tryz.underlying138]
  go_simp
  have i1 := toList_inj x a
  by_cases h1 : x = a <;> by_cases h2 : y = b <;> simp_all [hdEq]

theorem run_hdNeq (x a : ByteArray) (y b : Int) (w : World) : (binOp .neq 138 (.agg #[.string x, .int .i64 y]) (.agg #[.string a, .int .i64 b])).run Tryz.prog w = .ok (.bool (!hdEq (x, y) (a, b))) w := by
  have u3 := Tryz.underlying9
  have a3 := Tryz.isAgg9
  have z3 := Tryz.sizeOf9
  have v3 := Tryz.underlying3
  have b3 := Tryz.isAgg3
  have y3 := Tryz.sizeOf3
  have hS : Tryz.prog.underlying 138 = some (.struct (Tryz.prog.fieldsOf 138)) := by kernel_rfl
  have hp : Tryz.prog.stoodInHeld 138 = false := by kernel_rfl
  rw [run_neq_struct, show (10000 : Nat) = 9999 + 1 from rfl, run_equalIn_agg w 9999 138 _ _ hS hp]
  simp only [Program.fieldsOf, Tryz.underlying138]
  go_simp
  have i1 := toList_inj x a
  by_cases h1 : x = a <;> by_cases h2 : y = b <;> simp_all [hdEq]

theorem cellsHead : Tryz.prog.cellsOf 138 = 2 := by kernel_rfl
theorem cellsLHead : Tryz.prog.cellsOf 204 = 2 := by kernel_rfl
theorem infoHead : (Tryz.prog.info? 138).map (fun i => (i.zero, i.size, i.bytes)) = some (some (.agg #[.string .empty, .int .i64 0]), 2, 24) := by kernel_rfl

/-- a branches' cell by its place -/
def headCell (hs : List Hd) (j : Nat) : Value := if j % 2 = 0 then .string (hdn hs (j / 2)) else .int .i64 (hda hs (j / 2))
def zeroH (j : Nat) : Value := if j % 2 = 0 then .string .empty else .int .i64 0

/-- how far a row is filled -/
def filledH (hs : List Hd) (k j : Nat) : Value := if j < k * 2 then headCell hs j else zeroH j

theorem filledH_step (hs : List Hd) (k j : Nat) :
    (if j = k * 2 + 1 then .int .i64 (hda hs k) else if j = k * 2 then .string (hdn hs k) else filledH hs k j) = filledH hs (k + 1) j := by
  unfold filledH headCell
  by_cases h1 : j = k * 2 + 1
  · subst h1
    rw [if_pos rfl, if_pos (by omega), if_neg (by omega), show (k * 2 + 1) / 2 = k by omega]
  · rw [if_neg h1]
    by_cases h2 : j = k * 2
    · subst h2
      rw [if_pos rfl, if_pos (by omega), if_pos (by omega), show (k * 2) / 2 = k by omega]
    · rw [if_neg h2]
      by_cases h3 : j < k * 2
      · have h4 : j < (k + 1) * 2 := by omega
        rw [if_pos h3, if_pos h4]
      · rw [if_neg h3, if_neg (by omega)]

theorem made_rowH (w : World) (n : Nat) (t : TypeId) : (w.alloc (.cells (madeCells #[.string .empty, .int .i64 0] (n * 2)) t)).rowIs w.heap.size t (n * 2) zeroH := by
  have hs : (madeCells #[Value.string .empty, .int .i64 0] (n * 2)).size = n * 2 := by simp [madeCells]
  have := World.rowIs_alloc w (madeCells #[.string .empty, .int .i64 0] (n * 2)) t zeroH (by
    intro i hi
    rw [hs] at hi
    simp only [madeCells, Array.getElem?_map, Array.getElem?_range, if_pos hi, Option.map_some]
    have : i % 2 = 0 ∨ i % 2 = 1 := by omega
    rcases this with h | h <;> simp [h, zeroH])
  rwa [hs] at this

theorem HeadsAt.of_row {hs : List Hd} {w : World} {b : Nat} {t : TypeId} (h : w.rowIs b t (hs.length * 2) (headCell hs)) : HeadsAt w (some ⟨b, 0, none⟩) hs := by
  intro i hi
  refine ⟨b, 0, rfl, h.lt, ?_, ?_⟩
  · have := h.cell (i := i * 2) (by omega)
    rw [Nat.zero_add, this]
    unfold headCell
    rw [if_pos (by omega), show i * 2 / 2 = i by omega]
  · have := h.cell (i := i * 2 + 1) (by omega)
    rw [Nat.zero_add, this]
    unfold headCell
    rw [if_neg (by omega), show (i * 2 + 1) / 2 = i by omega]

/-- what 'toHeadS' answers: a row of its own -/
def NewHeads (w : World) (hs : List Hd) (e : Ending) (w' : World) : Prop :=
  ∃ b, e = .returned (.slice (some ⟨b, 0, none⟩) hs.length hs.length) ∧ w'.rowIs b 138 (hs.length * 2) (headCell hs) ∧ w.heap.size ≤ b ∧ Below w.heap.size w w'

set_option maxHeartbeats 400000 in
theorem toHeadS_any (a : Option Addr) (cap : Nat) (hs : List Hd) (w : World) (hp : HeadsAt w a hs) (hlen : hs.length ≤ 1048576) :
    Calls Tryz.prog 101 #[.slice a hs.length cap] w (NewHeads w hs) := by
  obtain ⟨i0, hi, hz0, hz1, hz2⟩ := info_parts infoHead
  have hmk : ∀ u : World, (Instr.makeSlice 60 (.int .i64 (hs.length : Int)) (.int .i64 (hs.length : Int))).run Tryz.prog u =
      .ok (.slice (some ⟨u.heap.size, 0, none⟩) hs.length hs.length) (u.alloc (.cells (madeCells #[.string .empty, .int .i64 0] (hs.length * 2)) 138)) := fun u => by
    have h := run_make (P := Tryz.prog) u 60 138 i0 (.agg #[.string .empty, .int .i64 0]) Tryz.underlying60 hi hz0 .i64 .i64 (hs.length : Int) (hs.length : Int) (by omega) (Int.le_refl _) (by rw [hz2]; omega) (by omega)
    simpa [hz1, Value.cells] using h
  have H0 := Lib.hid hp
  clear hp hz0 hz1 hz2 hi
  go_enter Tryz.func101, Tryz.ntmps101
  go_wp2
  clear hmk
  go_loopw [4] (fun i wr => ∃ k : Nat, k ≤ hs.length ∧ i = .int .i64 k ∧ wr.rowIs w.heap.size 138 (hs.length * 2) (filledH hs k) ∧ Below w.heap.size w wr) (fun i _ => hs.length - (intOf i).toNat)
  case atStart =>
    refine ⟨0, Nat.zero_le _, rfl, (made_rowH w hs.length _).congr fun i _ => ?_, (Below.refl _ _).alloc (Nat.le_refl _) _⟩
    unfold filledH
    rw [if_neg (by omega)]
  case round =>
    obtain ⟨k, hk, rfl, hrow, hbel⟩ := hrel
    by_cases hlt : k < hs.length
    · obtain ⟨b, off, rfl, hb, hc1, hc2⟩ := H0.out k hlt
      rw [← hbel.cell (p := ⟨b, _, none⟩) hb] at hc1 hc2
      have HR := Lib.hid hrow
      have HB := Lib.hid hbel
      clear hrow hbel
      have hsz := HB.out.size
      go_wp2_with fail
      refine (toHead_any _ _ _).mono ?_
      rintro e w1 ⟨rfl, hb1⟩
      have hrow1 : w1.rowIs w.heap.size 138 (hs.length * 2) (filledH hs k) := HR.out.of_block (hb1.block _ HR.out.lt)
      have hf1 := hrow1.frozen (k * 2)
      have hf2 := hrow1.frozen (k * 2 + 1)
      have hd1 := hrow1.cell (i := k * 2) (by omega)
      have hd2 := hrow1.cell (i := k * 2 + 1) (by omega)
      have HR1 := Lib.hid hrow1
      have HB1 := Lib.hid hb1
      clear hrow1 hb1
      go_wp2
      go_roundw
      case rel =>
        refine ⟨k + 1, by omega, by go_num, ((HR1.out.set (k * 2) _).set (k * 2 + 1) _).congr fun j _ => filledH_step hs k j, ?_⟩
        exact ((HB.out.trans (HB1.out.mono hsz)).setCell (Nat.le_refl _) _).setCell (Nat.le_refl _) _
      case measure => simp [intOf]; omega
    · have HR := Lib.hid hrow
      have HB := Lib.hid hbel
      clear hrow hbel
      go_wp2
      go_ret
      obtain rfl : k = hs.length := by omega
      exact ⟨w.heap.size, rfl, HR.out.congr fun j hj => (by unfold filledH; rw [if_pos hj]), Nat.le_refl _, HB.out⟩

set_option maxHeartbeats 1000000 in
theorem szHead_any (x : ByteArray) (y : Int) (left : Int) (w : World) (h0 : 0 ≤ left) (h1 : left ≤ 1048576) (hx : x.size ≤ 9223372036854775807) :
    Calls Tryz.prog 163 #[.agg #[.string x, .int .i64 y], .int .i64 left] w fun e w' => (∃ r, e = .returned (.int .i64 r) ∧ (r = -1 ∨ (0 ≤ r ∧ r ≤ left ∧ (x.size : Int) ≤ left))) ∧ Below w.heap.size w w' := by
  by_cases g1 : (x.size : Int) ≤ left
  · go_enter Tryz.func163, Tryz.ntmps163
    go_wp2
    go_ret
    exact ⟨⟨_, rfl, .inr ⟨by omega, by omega, by omega⟩⟩, (Below.refl _ _).alloc (Nat.le_refl _) _⟩
  · go_enter Tryz.func163, Tryz.ntmps163
    go_wp2
    go_ret
    exact ⟨⟨_, rfl, .inl rfl⟩, (Below.refl _ _).alloc (Nat.le_refl _) _⟩

set_option maxHeartbeats 1000000 in
theorem szHeadS_any (a : Option Addr) (cap : Nat) (hs : List Hd) (left : Int) (w : World) (hp : HeadsAt w a hs) (hm : hs.length ≤ 9223372036854775807) (hl : HeadsLen hs 9223372036854775807) (h0 : 0 ≤ left) (h1 : left ≤ 1048576) :
    Calls Tryz.prog 94 #[.slice a hs.length cap, .int .i64 left] w fun e w' => (∃ r, e = .returned (.int .i64 r) ∧ SzHeads hs left r) ∧ Below w.heap.size w w' := by
  have HP := Lib.hid hp
  have HL := Lib.hid hl
  clear hp hl
  by_cases g1 : (hs.length : Int) ≤ left
  · go_enter Tryz.func94, Tryz.ntmps94
    go_wp2
    go_loopw [1, 5] (fun l i wr => ∃ (k : Nat) (r : Int), k ≤ hs.length ∧ i = .int .i64 k ∧ l = .int .i64 r ∧ 0 ≤ r ∧ r ≤ left ∧ Below w.heap.size w wr ∧ ∀ j, j < k → ((hdn hs j).size : Int) ≤ left) (fun _ i _ => hs.length - (intOf i).toNat)
    case atStart => exact ⟨0, left - hs.length, Nat.zero_le _, rfl, by simp, by omega, by omega, Below.refl _ _, fun j h => absurd h (Nat.not_lt_zero _)⟩
    case round =>
      obtain ⟨k, r, hk, rfl, rfl, hr0, hr1, hbel, hall⟩ := hrel
      have HA := Lib.hid hall
      have HB := Lib.hid hbel
      have hsz := hbel.size
      clear hall
      by_cases hlt : k < hs.length
      · obtain ⟨b, off, rfl, hb, hc1, hc2⟩ := HP.out k hlt
        rw [← hbel.cell (p := ⟨b, _, none⟩) hb] at hc1 hc2
        clear hbel
        go_wp2_with fail
        refine (szHead_any _ _ _ _ hr0 (by omega) (by have := HL.out k hlt; omega)).mono ?_
        rintro e w1 ⟨⟨r', rfl, hs'⟩, hb1⟩
        have HB1 := Lib.hid hb1
        clear hb1
        rcases hs' with rfl | ⟨g2, g3, g4⟩
        · go_wp2
          go_ret
          exact ⟨⟨_, rfl, .inl rfl⟩, HB.out.trans (HB1.out.mono hsz)⟩
        · go_wp2
          go_roundw
          case rel => exact ⟨k + 1, r', by omega, by go_num, rfl, g2, by omega, HB.out.trans (HB1.out.mono hsz), fun j hj => by by_cases e : j = k; (subst e; omega); exact HA.out j (by omega)⟩
          case measure => simp [intOf]; omega
      · obtain rfl : k = hs.length := by omega
        clear hbel
        go_wp2
        go_ret
        exact ⟨⟨_, rfl, .inr ⟨hr0, hr1, g1, HA.out⟩⟩, HB.out⟩
  · go_enter Tryz.func94, Tryz.ntmps94
    go_wp2
    go_ret
    exact ⟨⟨_, rfl, .inl rfl⟩, Below.refl _ _⟩

set_option maxRecDepth 100000 in
set_option maxHeartbeats 1000000 in
theorem eqHeadS_any (a a' : Option Addr) (cap cap' : Nat) (hs gs : List Hd) (w : World) (hp : HeadsAt w a hs) (hq : HeadsAt w a' gs) (hl : hs.length ≤ 1048576) (hl' : gs.length ≤ 1048576) :
    Calls Tryz.prog 105 #[.slice a hs.length cap, .slice a' gs.length cap'] w fun e w' => e = .returned (.bool (hdsEq hs gs)) ∧ Below w.heap.size w w' := by
  have HP := Lib.hid hp
  have HQ := Lib.hid hq
  clear hp hq
  by_cases he : hs.length = gs.length
  · have HE := Lib.hid he
    rw [← he]
    have h1 : ((hs.length : Int) != (hs.length : Int)) = false := by simp
    clear he
    go_enter Tryz.func105, Tryz.ntmps105
    go_wp2
    go_loopw [5] (fun i wr => ∃ k : Nat, k ≤ hs.length ∧ i = .int .i64 k ∧ Below w.heap.size w wr ∧ ∀ j, j < k → hdn hs j = hdn gs j ∧ hda hs j = hda gs j) (fun i _ => hs.length - (intOf i).toNat)
    case atStart => exact ⟨0, Nat.zero_le _, rfl, Below.refl _ _, fun j h => absurd h (Nat.not_lt_zero _)⟩
    case round =>
      obtain ⟨k, hk, rfl, hbel, hall⟩ := hrel
      have HA := Lib.hid hall
      have HB := Lib.hid hbel
      have hsz := hbel.size
      clear hall
      by_cases hlt : k < hs.length
      · obtain ⟨b, off, rfl, hb, hc1, hc2⟩ := HP.out k hlt
        obtain ⟨b', off', rfl, hb', hd1, hd2⟩ := HQ.out k (by have := HE.out; omega)
        rw [← hbel.cell (p := ⟨b, _, none⟩) hb] at hc1 hc2
        rw [← hbel.cell (p := ⟨b', _, none⟩) hb'] at hd1 hd2
        clear hbel
        by_cases hs' : hdn hs k = hdn gs k ∧ hda hs k = hda gs k
        · have hb1 : hdEq (hdn hs k, hda hs k) (hdn gs k, hda gs k) = true := by simp [hdEq, hs']
          have HS := Lib.hid hs'
          clear hs'
          go_wp2
          go_still_tail 8, (by kernel_rfl)
          go_wp2_with fail
          refine (eqHead_any _ _ _ _ _).mono ?_
          rintro e w1 ⟨rfl, hb2⟩
          have HB2 := Lib.hid hb2
          clear hb2
          go_wp2
          go_roundw
          case rel => exact ⟨k + 1, by omega, by go_num, HB.out.drew.trans (HB2.out.mono hsz), fun j hj => by by_cases e : j = k; (subst e; exact HS.out); exact HA.out j (by omega)⟩
          case measure => simp [intOf]; omega
        · have hb1 : hdEq (hdn hs k, hda hs k) (hdn gs k, hda gs k) = false := by simpa [hdEq] using hs'
          have HS := Lib.hid (hdsEq_ne hs')
          clear hs'
          go_wp2
          go_still_tail 8, (by kernel_rfl)
          go_wp2_with fail
          refine (eqHead_any _ _ _ _ _).mono ?_
          rintro e w1 ⟨rfl, hb2⟩
          have HB2 := Lib.hid hb2
          clear hb2
          go_wp2
          go_ret
          exact ⟨by rw [HS.out]; rfl, HB.out.drew.trans (HB2.out.mono hsz)⟩
      · obtain rfl : k = hs.length := by omega
        have HT := Lib.hid (hdsEq_of HE.out HA.out)
        clear hbel
        go_wp2
        go_ret
        exact ⟨by rw [HT.out]; rfl, HB.out⟩
  · have h1 : ((hs.length : Int) != (gs.length : Int)) = true := by simp; omega
    have HT := Lib.hid (hdsEq_len he)
    clear he
    go_enter Tryz.func105, Tryz.ntmps105
    go_wp2
    go_ret
    exact ⟨by rw [HT.out]; rfl, Below.refl _ _⟩

end Go.Proofs.YtdchfologicbeaaGreat
