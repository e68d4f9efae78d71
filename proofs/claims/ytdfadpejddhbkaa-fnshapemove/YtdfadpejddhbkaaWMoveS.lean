/- Proved here: the model's ShapeMove answers the shape moved, in memory of its own, or nothing and false; rows of at most 1,048,576 points. -/
import Derived.Test.YtdfadpejddhbkaaWMove
namespace Go.Proofs.Ytdfadpejddhbkaa
set_option linter.unusedVariables false
open Go.ChangeShapes Go.WideShapes Go.ChangeAt Go.RowKit

/-- points moved -/
def moved (ps : List (Int × Int)) (dx dy : Int) : List (Int × Int) := ps.map fun p => (p.1 + dx, p.2 + dy)
theorem moved_len (ps : List (Int × Int)) (dx dy : Int) : (moved ps dx dy).length = ps.length := by simp [moved]
theorem moved_x {ps : List (Int × Int)} {dx dy : Int} {i : Nat} (h : i < ps.length) : px (moved ps dx dy) i = px ps i + dx := by simp [px, moved, h]
theorem moved_y {ps : List (Int × Int)} {dx dy : Int} {i : Nat} (h : i < ps.length) : py (moved ps dx dy) i = py ps i + dy := by simp [py, moved, h]

/-- how far a shape may be moved -/
def far2 (n : Int) : Bool := decide (-2000 ≤ n) && decide (n ≤ 2000)
def moveIn (k : Int) (ps : List (Int × Int)) (dx dy : Int) : Bool := shapeOk k ps && (far2 dx && far2 dy)
def moveOk (k : Int) (ps : List (Int × Int)) (dx dy : Int) : Bool := moveIn k ps dx dy && shapeOk k (moved ps dx dy)

/-- what comes of a move that is in bounds -/
def mvB (k : Int) (ps : List (Int × Int)) (dx dy : Int) : Bool := shapeOk k (moved ps dx dy)
def mvK (k : Int) (ps : List (Int × Int)) (dx dy : Int) : Int := if shapeOk k (moved ps dx dy) then k else 0
def mvP (k : Int) (ps : List (Int × Int)) (dx dy : Int) : List (Int × Int) := if shapeOk k (moved ps dx dy) then moved ps dx dy else []

/-- what a move answers -/
def MoveAns (w : World) (k : Int) (ps : List (Int × Int)) (ok : Bool) (e : Ending) (w' : World) : Prop :=
  ∃ a cap, e = .returned (.tuple #[.agg #[.int .i64 k, .slice a ps.length cap], .bool ok]) ∧ PtsAt w' a ps ∧ Soft w' a ps.length ∧ Fresh w w' a ∧ Below w.heap.size w w'

theorem nothing_move {w w1 : World} {r : Nat} {x0 x1 : Value} (hw : Below w.heap.size w w1) (hr : w.heap.size ≤ r) :
    MoveAns w 0 [] false (.returned (.tuple #[.agg #[.int .i64 0, .slice none 0 0], .bool false])) ((w1.setCell ⟨r, 0, none⟩ x0).setCell ⟨r, 1, none⟩ x1) :=
  ⟨none, 0, rfl, fun i hi => absurd hi (Nat.not_lt_zero _), fun i hi => absurd hi (Nat.not_lt_zero _), fun x h => by simp [blk] at h, (hw.setCell hr _).setCell hr _⟩

theorem some_move {w w1 : World} {r g cap : Nat} {k : Int} {ps : List (Int × Int)} {x0 x1 : Value} (hw : Below w.heap.size w w1) (hr : w.heap.size ≤ r) (hg : w.heap.size ≤ g) (hg2 : g < w1.heap.size) (hne : g ≠ r) (hp : PtsAt w1 (some ⟨g, 0, none⟩) ps) (hs : Soft w1 (some ⟨g, 0, none⟩) ps.length) :
    MoveAns w k ps true (.returned (.tuple #[.agg #[.int .i64 k, .slice (some ⟨g, 0, none⟩) ps.length cap], .bool true])) ((w1.setCell ⟨r, 0, none⟩ x0).setCell ⟨r, 1, none⟩ x1) := by
  have hne' : blk (some ⟨g, 0, none⟩) ≠ some r := by simpa [blk] using hne
  exact ⟨some ⟨g, 0, none⟩, cap, rfl, (hp.set hne').set hne', (hs.set _ _).set _ _, fun x h => by obtain rfl : g = x := (by simpa [blk] using h); exact ⟨hg, by simpa [World.setCell] using hg2⟩, (hw.setCell hr _).setCell hr _⟩

set_option maxRecDepth 100000 in
set_option maxHeartbeats 2000000 in
theorem specShapeMove_out (k : Int) (a : Option Addr) (cap : Nat) (ps : List (Int × Int)) (dx dy : Int) (w : World) (hp : PtsAt w a ps) (hl : ps.length ≤ 1048576) (hno : moveIn k ps dx dy = false) :
    Calls Try.prog 20 #[.agg #[.int .i64 k, .slice a ps.length cap], .int .i64 dx, .int .i64 dy] w (MoveAns w 0 [] false) := by
  have HP := Lib.hid hp
  have HNO := Lib.hid hno
  clear hp hno
  go_enter Try.func20, Try.ntmps20
  go_wp2_with fail
  refine (specShapeOk_any _ _ _ _ _ (HP.out.below (((Below.refl _ _).alloc (Nat.le_refl _) _).alloc (by simp) _)) hl).mono ?_
  rintro e w1 ⟨rfl, hb1⟩
  have e0 := cell_later hb1 (a := ⟨w.heap.size + 1, 0, none⟩) (v := .int .i64 0) (by simp [go_sem])
  have e1 := cell_later hb1 (a := ⟨w.heap.size + 1, 1, none⟩) (v := .slice none 0 0) (by simp [go_sem])
  have f0 : w1.frozen? ⟨w.heap.size + 1, 0, none⟩ = false := by rw [(bcell hb1).2 _ _ (by simp)]; simp [go_sem]
  have f1 : w1.frozen? ⟨w.heap.size + 1, 1, none⟩ = false := by rw [(bcell hb1).2 _ _ (by simp)]; simp [go_sem]
  have B1 : Hid (Below w.heap.size w w1) := (((Below.refl _ _).alloc (Nat.le_refl _) _).alloc (by simp) _).trans (hb1.mono (by simp; omega))
  clear hb1
  have ret : ∀ fr : Act, True := fun _ => trivial
  clear ret
  have hcases : shapeOk k ps = false ∨ (shapeOk k ps = true ∧ dx < -2000) ∨ (shapeOk k ps = true ∧ -2000 ≤ dx ∧ 2000 < dx) ∨ (shapeOk k ps = true ∧ -2000 ≤ dx ∧ dx ≤ 2000 ∧ dy < -2000) ∨ (shapeOk k ps = true ∧ -2000 ≤ dx ∧ dx ≤ 2000 ∧ -2000 ≤ dy ∧ 2000 < dy) := by
    have := HNO.out
    unfold moveIn far2 at this
    cases hs : shapeOk k ps
    · exact .inl rfl
    · simp [hs] at this ⊢
      omega
  clear HNO
  rcases hcases with hs | ⟨hs, h1⟩ | ⟨hs, h1, h2⟩ | ⟨hs, h1, h2, h3⟩ | ⟨hs, h1, h2, h3, h4⟩
  all_goals
    go_wp2
    refine bodyPost_ret (v := .tuple #[.agg #[.int .i64 0, .slice none 0 0], .bool false]) (by simp [results, Try.results20, go_sem, e0, e1]) rfl ?_
    exact nothing_move B1.out (by omega)

set_option maxRecDepth 100000 in
set_option maxHeartbeats 4000000 in
theorem specShapeMove_in (k : Int) (a : Option Addr) (cap : Nat) (ps : List (Int × Int)) (dx dy : Int) (w : World) (hp : PtsAt w a ps) (hl : ps.length ≤ 6) (h0 : 0 < ps.length) (hok : shapeOk k ps = true) (hx1 : -2000 ≤ dx) (hx2 : dx ≤ 2000) (hy1 : -2000 ≤ dy) (hy2 : dy ≤ 2000) :
    Calls Try.prog 20 #[.agg #[.int .i64 k, .slice a ps.length cap], .int .i64 dx, .int .i64 dy] w
      (MoveAns w (mvK k ps dx dy) (mvP k ps dx dy) (mvB k ps dx dy)) := by
  have HP := Lib.hid hp
  have HG := Lib.hid (shapeOk_parts hok).2.2
  obtain ⟨b, off, rfl, hb, _, _⟩ := hp 0 h0
  clear hp
  go_enter Try.func20, Try.ntmps20
  go_wp2_with fail
  refine (specShapeOk_any _ _ _ _ _ (HP.out.below (((Below.refl _ _).alloc (Nat.le_refl _) _).alloc (by simp) _)) (by omega)).mono ?_
  rintro e w1 ⟨rfl, hb1⟩
  have c0 := cell_later hb1 (a := ⟨w.heap.size, 0, none⟩) (v := .int .i64 k) (by simp [go_sem])
  have c1 := cell_later hb1 (a := ⟨w.heap.size, 1, none⟩) (v := .slice (some ⟨b, off, none⟩) ps.length cap) (by simp [go_sem])
  have e0 := cell_later hb1 (a := ⟨w.heap.size + 1, 0, none⟩) (v := .int .i64 0) (by simp [go_sem])
  have e1 := cell_later hb1 (a := ⟨w.heap.size + 1, 1, none⟩) (v := .slice none 0 0) (by simp [go_sem])
  have f0 : w1.frozen? ⟨w.heap.size + 1, 0, none⟩ = false := by rw [(bcell hb1).2 _ _ (by simp)]; simp [go_sem]
  have f1 : w1.frozen? ⟨w.heap.size + 1, 1, none⟩ = false := by rw [(bcell hb1).2 _ _ (by simp)]; simp [go_sem]
  have B1 : Hid (Below w.heap.size w w1) := (((Below.refl _ _).alloc (Nat.le_refl _) _).alloc (by simp) _).trans (hb1.mono (by simp; omega))
  have z1 : w.heap.size + 1 < w1.heap.size := World.block_lt_of_cell? _ _ e0
  clear hb1
  go_wp2_with fail
  refine (l1Copy_any _ _ _ _ _ _ (HP.out.below B1.out) (by omega) h0).mono ?_
  rintro e w2 ⟨g, cap2, rfl, hpt, hso, hg, hglt, hb2⟩
  replace c1 := cell_later hb2 c1
  replace e0 := cell_later hb2 e0
  replace e1 := cell_later hb2 e1
  replace f0 := (hb2.frozen (p := ⟨w.heap.size + 1, 0, none⟩) z1).trans f0
  replace f1 := (hb2.frozen (p := ⟨w.heap.size + 1, 1, none⟩) z1).trans f1
  have z2 := hb2.size
  have B2 : Hid (Below w.heap.size w w2) := B1.out.trans (hb2.mono B1.out.size)
  -- the box of 'out', and the world in which the loop begins
  have O3 : Hid (PtsAt (w2.alloc (.cells #[.int .i64 k, .slice (some ⟨g, 0, none⟩) ps.length cap2] 25)) (some ⟨g, 0, none⟩) ps) := hpt.below ((Below.refl _ _).alloc (Nat.le_refl _) _)
  have S3 : Hid (Soft (w2.alloc (.cells #[.int .i64 k, .slice (some ⟨g, 0, none⟩) ps.length cap2] 25)) (some ⟨g, 0, none⟩) ps.length) := hso.below hpt ((Below.refl _ _).alloc (Nat.le_refl _) _)
  have d0 : (w2.alloc (.cells #[.int .i64 k, .slice (some ⟨g, 0, none⟩) ps.length cap2] 25)).cell? ⟨w2.heap.size, 0, none⟩ = some (.int .i64 k) := by simp [go_sem]
  have d1 : (w2.alloc (.cells #[.int .i64 k, .slice (some ⟨g, 0, none⟩) ps.length cap2] 25)).cell? ⟨w2.heap.size, 1, none⟩ = some (.slice (some ⟨g, 0, none⟩) ps.length cap2) := by simp [go_sem]
  have ba : Below w2.heap.size w2 (w2.alloc (.cells #[.int .i64 k, .slice (some ⟨g, 0, none⟩) ps.length cap2] 25)) := (Below.refl _ _).alloc (Nat.le_refl _) _
  have C1 := Lib.hid (cell_later ba c1)
  have E0 := Lib.hid (cell_later ba e0)
  have E1 := Lib.hid (cell_later ba e1)
  have F0 := Lib.hid ((ba.frozen (p := ⟨w.heap.size + 1, 0, none⟩) (by show w.heap.size + 1 < _; omega)).trans f0)
  have F1 := Lib.hid ((ba.frozen (p := ⟨w.heap.size + 1, 1, none⟩) (by show w.heap.size + 1 < _; omega)).trans f1)
  have D0 := Lib.hid d0
  have D1 := Lib.hid d1
  have B3 := Lib.hid (B2.out.trans (ba.mono (by omega)))
  go_wp2
  generalize (w2.alloc (.cells #[.int .i64 k, .slice (some ⟨g, 0, none⟩) ps.length cap2] 25)) = W at *
  clear hpt hso hb2 c0 c1 e0 e1 f0 f1 d0 d1 ba
  have y1 : w2.heap.size < W.heap.size := World.block_lt_of_cell? _ _ D0.out
  go_loopw [9] (fun i wr => ∃ j : Nat, j ≤ ps.length ∧ i = .int .i64 j ∧ RowFill W g 0 ps.length (fun i => if i < j then (px ps i + dx, py ps i + dy) else (px ps i, py ps i)) wr) (fun i _ => ps.length - (intOf i).toNat)
  case atStart => exact ⟨0, Nat.zero_le _, rfl, (RowFill.start O3.out).congr fun i _ => by simp⟩
  case round =>
    obtain ⟨j, hj, rfl, hR⟩ := hrel
    have hfar : ∀ {x o : Nat} {u : Value}, x ≠ g → W.cell? ⟨x, o, none⟩ = some u → wr.cell? ⟨x, o, none⟩ = some u := fun hne h => (hR.2.2.1.cell_far _ (World.block_lt_of_cell? _ _ h) (by simpa using hne)).trans h
    have d1 := hfar (by omega) D1.out
    by_cases hlt : j < ps.length
    · have c1 := hfar (by omega) C1.out
      obtain ⟨b', off', he, _, hd1, hd2⟩ := HP.out j hlt
      obtain ⟨rfl, rfl⟩ : b = b' ∧ off = off' := by simpa using he
      clear he
      rw [← B3.out.cell (p := ⟨b, _, none⟩) hb] at hd1 hd2
      replace hd1 := hfar (by omega) hd1
      replace hd2 := hfar (by omega) hd2
      obtain ⟨q1, q2⟩ := hR.1 j hlt
      simp only [Nat.lt_irrefl, if_false, Nat.zero_add] at q1 q2
      obtain ⟨s1, s2⟩ := S3.out j hlt g 0 rfl
      rw [← hR.2.1] at s1 s2
      simp only [Nat.zero_add] at s1 s2
      have gb := good_bd HG.out (i := j) hlt
      have w1' : IntKind.i64.wrap (px ps j + dx) = px ps j + dx := IntWalk.i64_in _ (by omega)
      have w2' : IntKind.i64.wrap (py ps j + dy) = py ps j + dy := IntWalk.i64_in _ (by omega)
      have hj2 : (j : Int) < (ps.length : Int) := by omega
      have HR := Lib.hid (((hR.set hlt (px ps j + dx) (py ps j + dy)).congr (g := fun i => if i < j + 1 then (px ps i + dx, py ps i + dy) else (px ps i, py ps i)) fun i _ => by
        by_cases e : i = j
        · subst e; simp
        · by_cases e2 : i < j
          · simp [e, e2, show i < j + 1 by omega]
          · simp [e, e2, show ¬ i < j + 1 by omega]).drew)
      clear hR hfar gb
      go_wp2
      refine wp_region_still_tail 21 (by kernel_rfl) (by kernel_rfl) ?_
      simp only [List.take_succ_cons, List.take_zero, List.drop_succ_cons, List.drop_zero]
      repeat still_step
      try refine wpStill_nil ?_
      change wpList _ _ _ _ _ wr.drew
      go_wp2
      go_roundw
      case rel => exact ⟨j + 1, by omega, by go_num, by have := HR.out; simpa only [Nat.zero_add] using this⟩
      case measure => simp [intOf]; omega
    · obtain rfl : j = ps.length := by omega
      have d0 := hfar (by omega) D0.out
      have e0 := hfar (by omega) E0.out
      have e1 := hfar (by omega) E1.out
      have f0 : wr.frozen? ⟨w.heap.size + 1, 0, none⟩ = false := by rw [hR.2.1]; exact F0.out
      have f1 : wr.frozen? ⟨w.heap.size + 1, 1, none⟩ = false := by rw [hR.2.1]; exact F1.out
      have hM : PtsAt wr (some ⟨g, 0, none⟩) (moved ps dx dy) := by
        have hR' := hR
        rw [← moved_len ps dx dy] at hR'
        exact hR'.pts (by omega) fun i hi => by
          have hi' : i < ps.length := by rw [moved_len] at hi; exact hi
          rw [moved_x hi', moved_y hi', if_pos (by rw [moved_len]; exact hi')]
      have hS : Soft wr (some ⟨g, 0, none⟩) (moved ps dx dy).length := by
        rw [moved_len]
        exact hR.soft S3.out
      have OKC := specShapeOk_any k (some ⟨g, 0, none⟩) cap2 (moved ps dx dy) wr hM (by rw [moved_len]; omega)
      rw [moved_len] at OKC
      have OK := Lib.hid OKC
      have HM := Lib.hid hM
      have HS := Lib.hid hS
      have BR : Hid (Below w.heap.size w wr) := B3.out.grown hR.2.2.1 B3.out.size (fun j e => by simp at e; omega)
      have zr : g < wr.heap.size := by rw [hR.2.2.2]; omega
      clear hR hfar OKC hM hS
      go_wp2_with fail
      refine OK.out.mono ?_
      rintro e w5 ⟨rfl, hb5⟩
      replace d0 := cell_later hb5 d0
      replace d1 := cell_later hb5 d1
      have zz : w.heap.size + 1 < wr.heap.size := World.block_lt_of_cell? _ _ e0
      replace e0 := cell_later hb5 e0
      replace e1 := cell_later hb5 e1
      replace f0 := (hb5.frozen (p := ⟨w.heap.size + 1, 0, none⟩) zz).trans f0
      replace f1 := (hb5.frozen (p := ⟨w.heap.size + 1, 1, none⟩) zz).trans f1
      have B5 : Hid (Below w.heap.size w w5) := BR.out.trans (hb5.mono BR.out.size)
      have M5 := Lib.hid (HM.out.below hb5)
      have S5 := Lib.hid (HS.out.below HM.out hb5)
      have z5 := hb5.size
      clear hb5 OK
      by_cases hmv : shapeOk k (moved ps dx dy) = true
      · have V1 : Hid (mvB k ps dx dy = true) := hmv
        have V2 : Hid (mvK k ps dx dy = k) := by simp [Hid, mvK, hmv]
        have V3 : Hid (mvP k ps dx dy = moved ps dx dy) := by simp [Hid, mvP, hmv]
        go_wp2
        refine bodyPost_ret (v := .tuple #[.agg #[.int .i64 k, .slice (some ⟨g, 0, none⟩) ps.length cap2], .bool true]) (by simp [results, Try.results20, go_sem, e0, e1]) rfl ?_
        rw [V1.out, V2.out, V3.out]
        have := some_move (cap := cap2) (k := k) (x0 := .int .i64 k) (x1 := .slice (some ⟨g, 0, none⟩) ps.length cap2) B5.out (r := w.heap.size + 1) (by omega) (by omega) (by omega) (by omega) M5.out S5.out
        rw [moved_len] at this
        exact this
      · have hmv' : shapeOk k (moved ps dx dy) = false := by simpa using hmv
        have V1 : Hid (mvB k ps dx dy = false) := hmv'
        have V2 : Hid (mvK k ps dx dy = 0) := by simp [Hid, mvK, hmv']
        have V3 : Hid (mvP k ps dx dy = []) := by simp [Hid, mvP, hmv']
        clear hmv
        go_wp2
        refine bodyPost_ret (v := .tuple #[.agg #[.int .i64 0, .slice none 0 0], .bool false]) (by simp [results, Try.results20, go_sem, e0, e1]) rfl ?_
        rw [V1.out, V2.out, V3.out]
        exact nothing_move B5.out (by omega)
end Go.Proofs.Ytdfadpejddhbkaa
