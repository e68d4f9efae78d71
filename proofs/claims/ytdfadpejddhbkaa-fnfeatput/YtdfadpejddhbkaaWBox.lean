/- Proved here: the program's ShapeBox and the model's both answer the least and the greatest places; rows of at most 1,048,576 points. -/
import Derived.Test.YtdfadpejddhbkaaWArea
import Derived.StillTailTactics
import Derived.Deep.RegionHeld3
import Derived.Deep.DeepCutAuto
namespace Go.Proofs.Ytdfadpejddhbkaa
set_option linter.unusedVariables false
open Go.ChangeShapes Go.WideShapes Go.ChangeAt Go.RowKit

/-- the least and the greatest of the first points -/
def loX (ps : List (Int × Int)) : Nat → Int
  | 0 => px ps 0
  | n + 1 => min (loX ps n) (px ps n)
def loY (ps : List (Int × Int)) : Nat → Int
  | 0 => py ps 0
  | n + 1 => min (loY ps n) (py ps n)
def hiX (ps : List (Int × Int)) : Nat → Int
  | 0 => px ps 0
  | n + 1 => max (hiX ps n) (px ps n)
def hiY (ps : List (Int × Int)) : Nat → Int
  | 0 => py ps 0
  | n + 1 => max (hiY ps n) (py ps n)

theorem lo1 (ps : List (Int × Int)) : loX ps 1 = px ps 0 ∧ loY ps 1 = py ps 0 ∧ hiX ps 1 = px ps 0 ∧ hiY ps 1 = py ps 0 := by
  refine ⟨?_, ?_, ?_, ?_⟩ <;> simp [loX, loY, hiX, hiY]

/-- the box of a shape, nothing of one that is none -/
def boxLX (k : Int) (ps : List (Int × Int)) : Int := if shapeOk k ps then loX ps ps.length else 0
def boxLY (k : Int) (ps : List (Int × Int)) : Int := if shapeOk k ps then loY ps ps.length else 0
def boxHX (k : Int) (ps : List (Int × Int)) : Int := if shapeOk k ps then hiX ps ps.length else 0
def boxHY (k : Int) (ps : List (Int × Int)) : Int := if shapeOk k ps then hiY ps ps.length else 0

theorem l1Min_any (a b : Int) (w : World) : Calls Try.prog 70 #[.int .i64 a, .int .i64 b] w fun e w' => e = .returned (.int .i64 (min a b)) ∧ w' = w := by
  go_enter Try.func70, Try.ntmps70
  go_wp2
  all_goals go_ret
  all_goals exact ⟨by simp; omega, rfl⟩

/-- a point's two cells -/
def ptRow (x y : Int) (j : Nat) : Value := if j = 0 then .int .i64 x else .int .i64 y

theorem ptRow_alloc (w : World) (x y : Int) (t : TypeId) : (w.alloc (.cells #[.int .i64 x, .int .i64 y] t)).rowIs w.heap.size t 2 (ptRow x y) :=
  World.rowIs_alloc w #[.int .i64 x, .int .i64 y] t (ptRow x y) (by
    intro i hi
    have : i = 0 ∨ i = 1 := by simp at hi; omega
    rcases this with rfl | rfl <;> rfl)

theorem ptRow_set {w : World} {b : Nat} {t : TypeId} {f : Nat → Value} (h : w.rowIs b t 2 f) (x y : Int) : ((w.setCell ⟨b, 0, none⟩ (.int .i64 x)).setCell ⟨b, 1, none⟩ (.int .i64 y)).rowIs b t 2 (ptRow x y) :=
  ((h.set 0 _).set 1 _).congr fun j hj => by
    have : j = 0 ∨ j = 1 := by omega
    rcases this with rfl | rfl <;> simp [ptRow]

/-- what the program lays ahead of its loop: two boxes of its own -/
def TwoBoxes (B : Nat) (ps : List (Int × Int)) (n : Nat) (s4 s5 : Value) (w : World) : Prop :=
  ∃ b4 b5, s4 = .pointer (some ⟨b4, 0, none⟩) ∧ s5 = .pointer (some ⟨b5, 0, none⟩) ∧ b4 ≠ b5 ∧ B ≤ b4 ∧ B ≤ b5 ∧ w.rowIs b4 32 2 (ptRow (loX ps n) (loY ps n)) ∧ w.rowIs b5 32 2 (ptRow (hiX ps n) (hiY ps n))

theorem if_min (a b : Int) : (if b < a then b else a) = min a b := by split <;> omega
theorem if_max (a b : Int) : (if a < b then b else a) = max a b := by split <;> omega

theorem boxes_start (w : World) (x y : Int) (t : TypeId) :
    (((w.alloc (.cells #[.int .i64 x, .int .i64 y] t)).alloc (.cells #[.int .i64 x, .int .i64 y] t)).drew).rowIs w.heap.size t 2 (ptRow x y) ∧ (((w.alloc (.cells #[.int .i64 x, .int .i64 y] t)).alloc (.cells #[.int .i64 x, .int .i64 y] t)).drew).rowIs (w.heap.size + 1) t 2 (ptRow x y) := by
  refine ⟨((ptRow_alloc w x y t).alloc _).drew, ?_⟩
  have := ptRow_alloc (w.alloc (.cells #[.int .i64 x, .int .i64 y] t)) x y t
  simp only [World.size_alloc] at this
  exact this.drew

set_option maxRecDepth 100000 in
set_option maxHeartbeats 2000000 in
theorem implShapeBox_yes (k : Int) (a : Option Addr) (cap : Nat) (ps : List (Int × Int)) (w : World) (hp : PtsAt w a ps) (hok : shapeOk k ps = true) (h0 : 0 < ps.length) (hl : ps.length ≤ 6) :
    Calls Try.prog 16 #[.agg #[.int .i64 k, .slice a ps.length cap]] w fun e w' => e = .returned (.tuple #[.agg #[.int .i64 (loX ps ps.length), .int .i64 (loY ps ps.length)], .agg #[.int .i64 (hiX ps ps.length), .int .i64 (hiY ps ps.length)]]) ∧ Below w.heap.size w w' := by
  have HP := Lib.hid hp
  obtain ⟨b, off, rfl, hb, hc1, hc2⟩ := hp 0 h0
  simp only [Nat.zero_mul, Nat.add_zero] at hc1 hc2
  clear hp
  go_enter Try.func16, Try.ntmps16
  go_wp2_with fail
  refine (implShapeOk_any _ _ _ _ _ (HP.out.below ((((Below.refl _ _).alloc (Nat.le_refl _) _).alloc (by simp) _).alloc (by simp; omega) _))).mono ?_
  rintro e w1 ⟨rfl, hb1⟩
  have c1 := cell_later hb1 (a := ⟨w.heap.size, 1, none⟩) (v := .slice (some ⟨b, off, none⟩) ps.length cap) (by simp [go_sem])
  have hb1' : Below w.heap.size w w1 := ((((Below.refl _ _).alloc (Nat.le_refl _) _).alloc (by simp) _).alloc (by simp; omega) _).trans (hb1.mono (by simp; omega))
  rw [← hb1'.cell (p := ⟨b, _, none⟩) hb] at hc1 hc2
  have r2 : w1.rowIs (w.heap.size + 1) 32 2 (ptRow 0 0) := by
    have := (ptRow_alloc (w.alloc (.cells #[.int .i64 k, .slice (some ⟨b, off, none⟩) ps.length cap] 25)) 0 0 32).alloc (.cells #[.int .i64 0, .int .i64 0] 32)
    have t := World.rowIs.of_block this (hb1.block _ (by simp))
    simpa only [World.size_alloc] using t
  have r3 : w1.rowIs (w.heap.size + 1 + 1) 32 2 (ptRow 0 0) := by
    have := ptRow_alloc ((w.alloc (.cells #[.int .i64 k, .slice (some ⟨b, off, none⟩) ps.length cap] 25)).alloc (.cells #[.int .i64 0, .int .i64 0] 32)) 0 0 32
    have t := World.rowIs.of_block this (hb1.block _ (by simp))
    simpa only [World.size_alloc] using t
  have z1 : w.heap.size + 1 + 1 < w1.heap.size := r3.lt
  have z2 : b < w1.heap.size := by omega
  have z3 : w.heap.size < w1.heap.size := by omega
  have R2 := Lib.hid r2
  have R3 := Lib.hid r3
  have B1 := Lib.hid hb1'
  clear hb1 hb1' r2 r3
  have h0' : (0 : Int) < (ps.length : Int) := by omega
  go_upto_region 3 with (fail)
  go_cut [4, 5] (fun s4 s5 wx => TwoBoxes w1.heap.size ps 0 s4 s5 wx ∧ Below w1.heap.size w1 wx)
  case first =>
    go_region_held3 (fun w' => w'.cell? ⟨w.heap.size, 1, none⟩ = some (.slice (some ⟨b, off, none⟩) ps.length cap) ∧ w'.cell? ⟨b, off, none⟩ = some (.int .i64 (px ps 0)) ∧ w'.cell? ⟨b, off + 1, none⟩ = some (.int .i64 (py ps 0))) (go_keep) (fail)
    all_goals (go_wp2_with fail; go_meet; refine ⟨?_, (((Below.refl _ _).alloc (Nat.le_refl _) _).alloc (by simp) _).drew⟩)
    all_goals
      obtain ⟨g1, g2⟩ := boxes_start w1 (px ps 0) (py ps 0) 32
      first
        | exact ⟨w1.heap.size, w1.heap.size + 1, rfl, rfl, by omega, Nat.le_refl _, by omega, g1, g2⟩
        | exact ⟨w1.heap.size + 1, w1.heap.size, rfl, rfl, by omega, by omega, Nat.le_refl _, g2, g1⟩
  case rest =>
    obtain ⟨⟨b4, b5, rfl, rfl, hne, hB4, hB5, r4, r5⟩, hbel⟩ := hcut
    have c1' := cell_later hbel c1
    have R4 := Lib.hid r4
    have R5 := Lib.hid r5
    have HB := Lib.hid hbel
    clear r4 r5 hbel hc1 hc2 c1
    go_wp2
    clear c1'
    go_loopw [7, 24] (fun _ i wr => ∃ j : Nat, j ≤ ps.length ∧ i = .int .i64 j ∧ wr.rowIs b4 32 2 (ptRow (loX ps j) (loY ps j)) ∧ wr.rowIs b5 32 2 (ptRow (hiX ps j) (hiY ps j)) ∧ Below w1.heap.size w1 wr) (fun _ i _ => ps.length - (intOf i).toNat)
    case atStart => exact ⟨0, Nat.zero_le _, rfl, R4.out, R5.out, HB.out⟩
    case round =>
      clear R4 R5 HB
      obtain ⟨j, hj, rfl, r4, r5, hbel⟩ := hrel
      by_cases hlt : j < ps.length
      · obtain ⟨b', off', he, _, hd1, hd2⟩ := HP.out j hlt
        obtain ⟨rfl, rfl⟩ : b = b' ∧ off = off' := by simpa using he
        clear he
        rw [← B1.out.cell (p := ⟨b, _, none⟩) hb, ← hbel.cell (p := ⟨b, _, none⟩) z2] at hd1 hd2
        have q0 := r4.cell (i := 0) (by omega)
        have q1 := r4.cell (i := 1) (by omega)
        have q2 := r5.cell (i := 0) (by omega)
        have q3 := r5.cell (i := 1) (by omega)
        simp only [ptRow, if_true, Nat.one_ne_zero, if_false] at q0 q1 q2 q3
        have f0 := r4.frozen 0
        have f1 := r4.frozen 1
        have f2 := r5.frozen 0
        have f3 := r5.frozen 1
        have y1 := r4.lt
        have y2 := r5.lt
        have y3 := hbel.size
        have y4 : b < wr.heap.size := by omega
        have m1 : ¬ b4 = b5 := hne
        have m2 : ¬ b5 = b4 := fun h => hne h.symm
        have m3 : ¬ b4 = wr.heap.size := by omega
        have m4 : ¬ wr.heap.size = b4 := by omega
        have m5 : ¬ b5 = wr.heap.size := by omega
        have m6 : ¬ wr.heap.size = b5 := by omega
        have R4 := Lib.hid r4
        have R5 := Lib.hid r5
        have HB := Lib.hid hbel
        clear r4 r5 hbel
        go_wp2
        go_roundw
        case rel =>
          simp only [if_min, if_max]
          refine ⟨j + 1, by omega, by go_num, ?_, ?_, ?_⟩
          · exact (((ptRow_set R4.out _ _).setOther (by simpa using m1) _).setOther (by simpa using m1) _).alloc _
          · exact (ptRow_set ((R5.out.setOther (by simpa using m2) _).setOther (by simpa using m2) _) _ _).alloc _
          · exact ((((HB.out.setCell hB4 _).setCell hB4 _).setCell hB5 _).setCell hB5 _).alloc (by simp [World.setCell]; exact y3) _
        case measure => simp [intOf]; omega
      · obtain rfl : j = ps.length := by omega
        have q0 := r4.cell (i := 0) (by omega)
        have q1 := r4.cell (i := 1) (by omega)
        have q2 := r5.cell (i := 0) (by omega)
        have q3 := r5.cell (i := 1) (by omega)
        simp only [ptRow, if_true, Nat.one_ne_zero, if_false] at q0 q1 q2 q3
        have s2 : wr.rowIs (w.heap.size + 1) 32 2 (ptRow 0 0) := R2.out.of_block (hbel.block _ (by omega))
        have s3 : wr.rowIs (w.heap.size + 1 + 1) 32 2 (ptRow 0 0) := R3.out.of_block (hbel.block _ (by omega))
        have t0 := s2.cell (i := 0) (by omega)
        have t1 := s2.cell (i := 1) (by omega)
        have t2 := s3.cell (i := 0) (by omega)
        have t3 := s3.cell (i := 1) (by omega)
        simp only [ptRow, if_true, Nat.one_ne_zero, if_false] at t0 t1 t2 t3
        have f0 := s2.frozen 0
        have f1 := s2.frozen 1
        have f2 := s3.frozen 0
        have f3 := s3.frozen 1
        have HB := Lib.hid hbel
        have y1 : w.heap.size + 1 < w1.heap.size := by omega
        have n1 : ¬ b4 = w.heap.size := by omega
        have n2 : ¬ b4 = w.heap.size + 1 := by omega
        have n3 : ¬ b4 = w.heap.size + 1 + 1 := by omega
        have n4 : ¬ b5 = w.heap.size := by omega
        have n5 : ¬ b5 = w.heap.size + 1 := by omega
        have n6 : ¬ b5 = w.heap.size + 1 + 1 := by omega
        have n7 : ¬ w.heap.size + 1 = b4 := by omega
        have n8 : ¬ w.heap.size + 1 + 1 = b4 := by omega
        have n9 : ¬ w.heap.size + 1 = b5 := by omega
        have n0 : ¬ w.heap.size + 1 + 1 = b5 := by omega
        clear r4 r5 hbel s2 s3
        go_wp2
        go_region_held3 (fun w' => w'.cell? ⟨b4, 0, none⟩ = some (.int .i64 (loX ps ps.length)) ∧ w'.cell? ⟨b4, 1, none⟩ = some (.int .i64 (loY ps ps.length)) ∧ w'.cell? ⟨b5, 0, none⟩ = some (.int .i64 (hiX ps ps.length)) ∧ w'.cell? ⟨b5, 1, none⟩ = some (.int .i64 (hiY ps ps.length))) (go_keep) (fail)
        all_goals go_wp2
        all_goals refine bodyPost_ret (v := .tuple #[.agg #[.int .i64 (loX ps ps.length), .int .i64 (loY ps ps.length)], .agg #[.int .i64 (hiX ps ps.length), .int .i64 (hiY ps ps.length)]]) (by simp [results, Try.results16, go_sem, t0, t1, t2, t3]) rfl ⟨rfl, ?_⟩
        all_goals exact (((((B1.out.trans (HB.out.mono (by omega))).setCell (by simp; try omega) _).setCell (by simp; try omega) _).setCell (by simp; try omega) _).setCell (by simp; try omega) _).drew

set_option maxRecDepth 100000 in
set_option maxHeartbeats 1000000 in
theorem implShapeBox_no (k : Int) (a : Option Addr) (cap : Nat) (ps : List (Int × Int)) (w : World) (hp : PtsAt w a ps) (hok : shapeOk k ps = false) :
    Calls Try.prog 16 #[.agg #[.int .i64 k, .slice a ps.length cap]] w fun e w' => e = .returned (.tuple #[.agg #[.int .i64 0, .int .i64 0], .agg #[.int .i64 0, .int .i64 0]]) ∧ Below w.heap.size w w' := by
  have HP := Lib.hid hp
  clear hp
  go_enter Try.func16, Try.ntmps16
  go_wp2_with fail
  refine (implShapeOk_any _ _ _ _ _ (HP.out.below ((((Below.refl _ _).alloc (Nat.le_refl _) _).alloc (by simp) _).alloc (by simp; omega) _))).mono ?_
  rintro e w1 ⟨rfl, hb1⟩
  have hb1' : Below w.heap.size w w1 := ((((Below.refl _ _).alloc (Nat.le_refl _) _).alloc (by simp) _).alloc (by simp; omega) _).trans (hb1.mono (by simp; omega))
  have r2 : w1.rowIs (w.heap.size + 1) 32 2 (ptRow 0 0) := by
    have := (ptRow_alloc (w.alloc (.cells #[.int .i64 k, .slice a ps.length cap] 25)) 0 0 32).alloc (.cells #[.int .i64 0, .int .i64 0] 32)
    have t := World.rowIs.of_block this (hb1.block _ (by simp))
    simpa only [World.size_alloc] using t
  have r3 : w1.rowIs (w.heap.size + 1 + 1) 32 2 (ptRow 0 0) := by
    have := ptRow_alloc ((w.alloc (.cells #[.int .i64 k, .slice a ps.length cap] 25)).alloc (.cells #[.int .i64 0, .int .i64 0] 32)) 0 0 32
    have t := World.rowIs.of_block this (hb1.block _ (by simp))
    simpa only [World.size_alloc] using t
  have t0 := r2.cell (i := 0) (by omega)
  have t1 := r2.cell (i := 1) (by omega)
  have t2 := r3.cell (i := 0) (by omega)
  have t3 := r3.cell (i := 1) (by omega)
  simp only [ptRow, if_true, Nat.one_ne_zero, if_false] at t0 t1 t2 t3
  have f0 := r2.frozen 0
  have f1 := r2.frozen 1
  have f2 := r3.frozen 0
  have f3 := r3.frozen 1
  have B1 := Lib.hid hb1'
  clear hb1 hb1' r2 r3
  go_wp2
  refine bodyPost_ret (v := .tuple #[.agg #[.int .i64 0, .int .i64 0], .agg #[.int .i64 0, .int .i64 0]]) (by simp [results, Try.results16, go_sem, t0, t1, t2, t3]) rfl ⟨rfl, ?_⟩
  exact (((B1.out.setCell (by simp) _).setCell (by simp) _).setCell (by simp; try omega) _).setCell (by simp; try omega) _

theorem ok_pos {k : Int} {ps : List (Int × Int)} (h : shapeOk k ps = true) : 0 < ps.length := by
  have := (shapeOk_parts h).2.1
  unfold kindHolds at this
  split at this
  · simp at this; omega
  · split at this
    · simp at this; omega
    · split at this
      · simp at this; omega
      · cases this

theorem implShapeBox_any (k : Int) (a : Option Addr) (cap : Nat) (ps : List (Int × Int)) (w : World) (hp : PtsAt w a ps) :
    Calls Try.prog 16 #[.agg #[.int .i64 k, .slice a ps.length cap]] w fun e w' => e = .returned (.tuple #[.agg #[.int .i64 (boxLX k ps), .int .i64 (boxLY k ps)], .agg #[.int .i64 (boxHX k ps), .int .i64 (boxHY k ps)]]) ∧ Below w.heap.size w w' := by
  by_cases hok : shapeOk k ps = true
  · simp only [boxLX, boxLY, boxHX, boxHY, hok, if_true]
    exact implShapeBox_yes k a cap ps w hp hok (ok_pos hok) (shapeOk_parts hok).1
  · have hok' : shapeOk k ps = false := by simpa using hok
    simp only [boxLX, boxLY, boxHX, boxHY, hok', Bool.false_eq_true, if_false]
    exact implShapeBox_no k a cap ps w hp hok'
end Go.Proofs.Ytdfadpejddhbkaa
