/- Proved here: the model's ShapeBack answers the points the last first, in memory of its own; rows of at most 1,048,576 points. -/
import Derived.Test.YtdfadpejddhbkaaWBack
import Derived.Test.YtdfadpejddhbkaaWSpecOk
import Derived.Test.YtdfadpejddhbkaaWArea
namespace Go.Proofs.Ytdfadpejddhbkaa
set_option linter.unusedVariables false
open Go.ChangeShapes Go.WideShapes Go.ChangeAt Go.RowKit

/-- the row that a block of one's own is: what a result's box holds -/
theorem cell_two (w : World) (x y : Value) (t : TypeId) : (w.alloc (.cells #[x, y] t)).cell? ⟨w.heap.size, 0, none⟩ = some x ∧ (w.alloc (.cells #[x, y] t)).cell? ⟨w.heap.size, 1, none⟩ = some y ∧ (w.alloc (.cells #[x, y] t)).frozen? ⟨w.heap.size, 0, none⟩ = false ∧ (w.alloc (.cells #[x, y] t)).frozen? ⟨w.heap.size, 1, none⟩ = false := by
  refine ⟨?_, ?_, ?_, ?_⟩ <;> simp [go_sem]

set_option maxRecDepth 100000 in
set_option maxHeartbeats 2000000 in
theorem specShapeBack_yes (k : Int) (a : Option Addr) (cap : Nat) (ps : List (Int × Int)) (w : World) (hp : PtsAt w a ps) (hl : ps.length ≤ 6) (hok : shapeOk k ps = true) (h0 : 0 < ps.length) :
    Calls Try.prog 12 #[.agg #[.int .i64 k, .slice a ps.length cap]] w (ShapeAns w k ps.reverse) := by
  have HP := Lib.hid hp
  obtain ⟨b, off, rfl, hb, hc1, hc2⟩ := hp 0 h0
  clear hp hc1 hc2
  obtain ⟨i0, hi, hz0, hz1, hz2⟩ := info_parts infoPt
  have HI := Lib.hid hi
  have HZ0 := Lib.hid hz0
  have HZ1 := Lib.hid hz1
  have HZ2 := Lib.hid hz2
  clear hi hz0 hz1 hz2
  go_enter Try.func12, Try.ntmps12
  go_wp2_with fail
  refine (specShapeOk_any _ _ _ _ _ (HP.out.below ((((Below.refl _ _).alloc (Nat.le_refl _) _).alloc (by simp) _).alloc (by simp; omega) _)) (by omega)).mono ?_
  rintro e w1 ⟨rfl, hb1⟩
  have c1 := cell_later hb1 (a := ⟨w.heap.size, 1, none⟩) (v := .slice (some ⟨b, off, none⟩) ps.length cap) (by simp [go_sem])
  have e0 := cell_later hb1 (a := ⟨w.heap.size + 1, 0, none⟩) (v := .int .i64 0) (by simp [go_sem])
  have e1 := cell_later hb1 (a := ⟨w.heap.size + 1, 1, none⟩) (v := .slice none 0 0) (by simp [go_sem])
  have f0 : w1.frozen? ⟨w.heap.size + 1, 0, none⟩ = false := by rw [(bcell hb1).2 _ _ (by simp; try omega)]; simp [go_sem]
  have f1 : w1.frozen? ⟨w.heap.size + 1, 1, none⟩ = false := by rw [(bcell hb1).2 _ _ (by simp; try omega)]; simp [go_sem]
  have g0 := cell_later hb1 (a := ⟨w.heap.size + 1 + 1, 0, none⟩) (v := .int .i64 k) (by simp [go_sem])
  have g1 := cell_later hb1 (a := ⟨w.heap.size + 1 + 1, 1, none⟩) (v := .slice none 0 0) (by simp [go_sem])
  have g2 : w1.frozen? ⟨w.heap.size + 1 + 1, 1, none⟩ = false := by rw [(bcell hb1).2 _ _ (by simp; try omega)]; simp [go_sem]
  have B1 : Hid (Below w.heap.size w w1) := ((((Below.refl _ _).alloc (Nat.le_refl _) _).alloc (by simp) _).alloc (by simp; omega) _).trans (hb1.mono (by simp; omega))
  have z1 : w.heap.size + 1 + 1 < w1.heap.size := World.block_lt_of_cell? _ _ g0
  have L0 : Hid (Laying w1 (w.heap.size + 1 + 1) k (backTo ps 0) w1 (.slice none 0 0)) := ⟨World.ownsRow_nil _ _ _ _, World.grownBy.refl _ _, g0, g1, g2⟩
  clear hb1 g0 g1 g2
  go_wp2
  have C1 := Lib.hid c1
  have E0 := Lib.hid e0
  have E1 := Lib.hid e1
  have F0 := Lib.hid f0
  have F1 := Lib.hid f1
  clear c1 e0 e1 f0 f1
  go_loopw [4] (fun i wr => ∃ (j : Nat) (v : Value), j ≤ ps.length ∧ i = .int .i64 ((ps.length : Int) - 1 - j) ∧ Laying w1 (w.heap.size + 1 + 1) k (backTo ps j) wr v) (fun i _ => (intOf i + 1).toNat)
  case atStart => exact ⟨0, _, Nat.zero_le _, by simp, L0.out⟩
  case round =>
    clear L0
    obtain ⟨j, v, hj, rfl, hL⟩ := hrel
    by_cases hlt : j < ps.length
    · obtain ⟨b', off', he, hb', hd1, hd2⟩ := HP.out (ps.length - 1 - j) (by omega)
      obtain ⟨rfl, rfl⟩ : b = b' ∧ off = off' := by simpa using he
      clear he
      rw [← B1.out.cell (p := ⟨b, _, none⟩) hb] at hd1 hd2
      replace hd1 := hL.far hd1 (by omega)
      replace hd2 := hL.far hd2 (by omega)
      have c1 := hL.far C1.out (by omega)
      have hk := hL.kind
      have hv := hL.pts
      have hf := hL.soft
      have hlen := backTo_len (ps := ps) (j := j) (by omega)
      have HL := Lib.hid hL
      have HLEN := Lib.hid hlen
      have HST := Lib.hid (backTo_step hlt)
      have zr : w.heap.size + 1 + 1 < wr.heap.size := World.block_lt_of_cell? _ _ hv
      have hn1 : ((ps.length : Int) - 1 - j).toNat = ps.length - 1 - j := by omega
      have hn2 : (0 : Int) ≤ (ps.length : Int) - 1 - j := by omega
      have hn3 : (ps.length : Int) - 1 - j < (ps.length : Int) := by omega
      clear hL hlen
      have HO := Lib.hid HL.out.own
      have hn5 := HL.out.grown.size
      have hn4 : (backTo ps j).length ≤ 6 := by have := HLEN.out; omega
      go_wp2
      go_region_law (refine step_append_lies _ (by rfl) _ _ _ (by rfl) w1.heap.size 32 i0 _ 2 16 Try.underlying23 HI.out HZ0.out HZ1.out HZ2.out rfl (by omega) v (backTo ps j).length (flat (backTo ps j)) (by rfl) ((HO.out.alloc _).drew) ⟨wr.heap.size, 0, none⟩ 1 1 [.int .i64 (px ps (ps.length - 1 - j)), .int .i64 (py ps (ps.length - 1 - j))] (by rfl) (by rfl) (World.news_of_block (cs := #[.int .i64 (px ps (ps.length - 1 - j)), .int .i64 (py ps (ps.length - 1 - j))]) (t := 32) (fr := (0, 0)) (heap_alloc_new wr _)) (by simp [Value.oneCell']) (by omega) (by unfold maxLen; omega) (by omega) (by simp; omega) (wr.heap.size + 1) (by simp) ?_; intro gg cap' wa hown1 hgrow hat hlt'; obtain ⟨x1, x2, x3⟩ := HL.out.after z1 hgrow; have HST2 := Lib.hid (HL.out.step z1 hown1 hgrow); clear hown1 hgrow hat)
      all_goals go_wp2
      all_goals exact ⟨⟨j + 1, _, by omega, congrArg (Value.int .i64) (by omega), HST.out ▸ HST2.out⟩, by simp [intOf]; omega⟩
    · obtain rfl : j = ps.length := by omega
      have e0 := hL.far E0.out (by omega)
      have e1 := hL.far E1.out (by omega)
      have f0 : wr.frozen? ⟨w.heap.size + 1, 0, none⟩ = false := by rw [hL.grown.frozen_far _ (World.block_lt_of_cell? _ _ E0.out) (by simp)]; exact F0.out
      have f1 : wr.frozen? ⟨w.heap.size + 1, 1, none⟩ = false := by rw [hL.grown.frozen_far _ (World.block_lt_of_cell? _ _ E1.out) (by simp)]; exact F1.out
      have hk := hL.kind
      have hv := hL.pts
      have hback : backTo ps ps.length = ps.reverse := by unfold backTo; rw [List.take_of_length_le (by simp)]
      rw [hback] at hL
      clear hback
      obtain ⟨a2, cap2, rfl, hpt, hso, hnew⟩ := owned_pts hL.own rfl
      have HQ := Lib.hid hpt
      have HS := Lib.hid hso
      have HN := Lib.hid hnew
      have HG := Lib.hid hL.grown
      have hn6 : (decide ((0 : Int) ≤ (ps.length : Int) - 1 - (ps.length : Int))) = false := by simp; omega
      clear hL hpt hso hnew
      go_wp2
      refine bodyPost_ret (v := .agg #[.int .i64 k, .slice a2 ps.reverse.length cap2]) (by simp [results, Try.results12, go_sem, e0, e1]) rfl ?_
      exact Laying.answer B1.out HG.out (by omega) (by omega) (by omega) HQ.out HS.out HN.out

/-- an answer that is nothing -/
theorem nothing_ans {w w1 : World} {r : Nat} {x0 x1 : Value} (hw : Below w.heap.size w w1) (hr : w.heap.size ≤ r) :
    ShapeAns w 0 [] (.returned (.agg #[.int .i64 0, .slice none 0 0])) ((w1.setCell ⟨r, 0, none⟩ x0).setCell ⟨r, 1, none⟩ x1) :=
  ⟨none, 0, rfl, fun i hi => absurd hi (Nat.not_lt_zero _), fun i hi => absurd hi (Nat.not_lt_zero _), fun x h => by simp [blk] at h, (hw.setCell hr _).setCell hr _⟩

set_option maxRecDepth 100000 in
set_option maxHeartbeats 2000000 in
theorem specShapeBack_no (k : Int) (a : Option Addr) (cap : Nat) (ps : List (Int × Int)) (w : World) (hp : PtsAt w a ps) (hl : ps.length ≤ 1048576) (hok : shapeOk k ps = false) :
    Calls Try.prog 12 #[.agg #[.int .i64 k, .slice a ps.length cap]] w (ShapeAns w 0 []) := by
  have HP := Lib.hid hp
  clear hp
  go_enter Try.func12, Try.ntmps12
  go_wp2_with fail
  refine (specShapeOk_any _ _ _ _ _ (HP.out.below ((((Below.refl _ _).alloc (Nat.le_refl _) _).alloc (by simp) _).alloc (by simp; omega) _)) hl).mono ?_
  rintro e w1 ⟨rfl, hb1⟩
  have e0 := cell_later hb1 (a := ⟨w.heap.size + 1, 0, none⟩) (v := .int .i64 0) (by simp [go_sem])
  have e1 := cell_later hb1 (a := ⟨w.heap.size + 1, 1, none⟩) (v := .slice none 0 0) (by simp [go_sem])
  have f0 : w1.frozen? ⟨w.heap.size + 1, 0, none⟩ = false := by rw [(bcell hb1).2 _ _ (by simp; try omega)]; simp [go_sem]
  have f1 : w1.frozen? ⟨w.heap.size + 1, 1, none⟩ = false := by rw [(bcell hb1).2 _ _ (by simp; try omega)]; simp [go_sem]
  have B1 : Hid (Below w.heap.size w w1) := ((((Below.refl _ _).alloc (Nat.le_refl _) _).alloc (by simp) _).alloc (by simp; omega) _).trans (hb1.mono (by simp; omega))
  clear hb1
  go_wp2
  refine bodyPost_ret (v := .agg #[.int .i64 0, .slice none 0 0]) (by simp [results, Try.results12, go_sem, e0, e1]) rfl ?_
  exact nothing_ans B1.out (by omega)

/-- what comes of a shape turned back -/
def backK (k : Int) (ps : List (Int × Int)) : Int := if shapeOk k ps then k else 0
def backP (k : Int) (ps : List (Int × Int)) : List (Int × Int) := if shapeOk k ps then ps.reverse else []

theorem ok_pos' {k : Int} {ps : List (Int × Int)} (h : shapeOk k ps = true) : 0 < ps.length := by
  have := (shapeOk_parts h).2.1
  unfold kindHolds at this
  split at this
  · simp at this; omega
  · split at this
    · simp at this; omega
    · split at this
      · simp at this; omega
      · cases this

theorem specShapeBack_any (k : Int) (a : Option Addr) (cap : Nat) (ps : List (Int × Int)) (w : World) (hp : PtsAt w a ps) (hl : ps.length ≤ 1048576) :
    Calls Try.prog 12 #[.agg #[.int .i64 k, .slice a ps.length cap]] w (ShapeAns w (backK k ps) (backP k ps)) := by
  by_cases hok : shapeOk k ps = true
  · simp only [backK, backP, hok, if_true]
    exact specShapeBack_yes k a cap ps w hp (shapeOk_parts hok).1 hok (ok_pos' hok)
  · have hok' : shapeOk k ps = false := by simpa using hok
    simp only [backK, backP, hok', Bool.false_eq_true, if_false]
    exact specShapeBack_no k a cap ps w hp hl hok'
end Go.Proofs.Ytdfadpejddhbkaa
