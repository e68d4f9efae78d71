/- Proved here: the program's ShapeMove answers the shape moved, in memory of its own, or nothing and false; no condition. -/
import Derived.Test.YtdfadpejddhbkaaWMoveS
namespace Go.Proofs.Ytdfadpejddhbkaa
set_option linter.unusedVariables false
open Go.ChangeShapes Go.WideShapes Go.ChangeAt Go.RowKit

theorem inReach_far (n : Int) (w : World) : Calls Try.prog 42 #[.int .i64 n, .int .i64 2000] w fun e w' => e = .returned (.bool (far2 n)) ∧ w = w' :=
  (inReach_any n 2000 w (by omega) (by omega)).mono fun _ _ ⟨he, hw⟩ => ⟨by rw [he]; rfl, hw.symm⟩

theorem Laying.after2 {w1 wr wb wa : World} {c : Nat} {k : Int} {ps : List (Int × Int)} {v : Value} (h : Laying w1 c k ps wr v) (hc : c < w1.heap.size) (hwb : Below wr.heap.size wr wb) (hg : wb.grownBy wa v.ownBlock) :
    wa.cell? ⟨c, 0, none⟩ = some (.int .i64 k) ∧ wa.cell? ⟨c, 1, none⟩ = some v ∧ wa.frozen? ⟨c, 1, none⟩ = false := by
  have hlt : c < wr.heap.size := Nat.lt_of_lt_of_le hc h.grown.size
  have hb : ∀ j, v.ownBlock = some j → w1.heap.size ≤ j := fun j hj => (h.own.lt j hj).1
  have hne : some c ≠ v.ownBlock := fun e => by have := hb c e.symm; omega
  have hca : c < wb.heap.size := Nat.lt_of_lt_of_le hlt hwb.size
  refine ⟨?_, ?_, ?_⟩
  · rw [hg.cell_far _ hca hne, hwb.cell (p := ⟨c, _, none⟩) hlt]
    exact h.kind
  · rw [hg.cell_far _ hca hne, hwb.cell (p := ⟨c, _, none⟩) hlt]
    exact h.pts
  · rw [hg.frozen_far _ hca hne, hwb.frozen (p := ⟨c, _, none⟩) hlt]
    exact h.soft

theorem below_grown {a b : World} {r : Option Nat} (h : Below a.heap.size a b) : a.grownBy b r := ⟨h.os, h.tape, h.output, h.size, fun k hk _ => h.block k hk⟩

theorem Laying.step2 {w1 wr wb wa : World} {c : Nat} {k : Int} {ps : List (Int × Int)} {v v' : Value} {p : Int × Int} (h : Laying w1 c k ps wr v) (hc : c < w1.heap.size)
    (hown : wa.ownsRow w1.heap.size 32 2 v' (ps.length + 1) (flat ps ++ [.int .i64 p.1, .int .i64 p.2])) (hwb : Below wr.heap.size wr wb) (hg : wb.grownBy wa v.ownBlock) :
    Laying w1 c k (ps ++ [p]) (wa.setCell ⟨c, 1, none⟩ v') v' := by
  obtain ⟨k1, k2, k3⟩ := h.after2 hc hwb hg
  have hb : ∀ j, v.ownBlock = some j → w1.heap.size ≤ j := fun j hj => (h.own.lt j hj).1
  have g1 : w1.grownBy wa (some c) := (h.grown.trans (below_grown hwb)).andThen hg fun j hj => .inl (hb j hj)
  refine ⟨?_, grown_set g1 _ _, ?_, ?_, ?_⟩
  · rw [flat_snoc, List.length_append]
    exact World.ownsRow.kept hown ⟨rfl, rfl, rfl, by simp [World.setCell], fun k _ hne => Below.heap_setCell _ _ _ _ (fun e => hne (by rw [e]))⟩ (row := some c) (by
      right
      intro e
      have := (hown.lt c e).1
      omega)
  · rw [World.cell?_setCell_other _ _ _ _ (by simp)]
    exact k1
  · exact World.cell?_setCell_same _ _ _ k2
  · rw [World.frozen?_setCell]
    exact k3

theorem heap_second (w : World) (O P : Obj) : ((w.alloc O).alloc P).heap[w.heap.size + 1]? = some P := by
  have := heap_alloc_new (w.alloc O) P
  simpa only [World.size_alloc] using this

/-- the first so many, moved -/
def movedTo (ps : List (Int × Int)) (dx dy : Int) (j : Nat) : List (Int × Int) := (moved ps dx dy).take j

theorem moved_take {ps : List (Int × Int)} {dx dy : Int} {j : Nat} (h : j < ps.length) : movedTo ps dx dy (j + 1) = movedTo ps dx dy j ++ [(px ps j + dx, py ps j + dy)] := by
  unfold movedTo
  rw [List.take_succ_eq_append_getElem (by rw [moved_len]; exact h)]
  simp [moved, px, py, h]

set_option maxRecDepth 100000 in
set_option maxHeartbeats 2000000 in
theorem implShapeMove_out (k : Int) (a : Option Addr) (cap : Nat) (ps : List (Int × Int)) (dx dy : Int) (w : World) (hp : PtsAt w a ps) (hno : moveIn k ps dx dy = false) :
    Calls Try.prog 19 #[.agg #[.int .i64 k, .slice a ps.length cap], .int .i64 dx, .int .i64 dy] w (MoveAns w 0 [] false) := by
  have HP := Lib.hid hp
  clear hp
  have hcases : shapeOk k ps = false ∨ (shapeOk k ps = true ∧ far2 dx = false) ∨ (shapeOk k ps = true ∧ far2 dx = true ∧ far2 dy = false) := by
    unfold moveIn at hno
    cases h1 : shapeOk k ps <;> cases h2 : far2 dx <;> cases h3 : far2 dy <;> simp_all
  clear hno
  go_enter Try.func19, Try.ntmps19
  go_wp2_with fail
  refine (implShapeOk_any _ _ _ _ _ (HP.out.below (((Below.refl _ _).alloc (Nat.le_refl _) _).alloc (by simp) _))).mono ?_
  rintro e w1 ⟨rfl, hb1⟩
  have e0 := cell_later hb1 (a := ⟨w.heap.size + 1, 0, none⟩) (v := .int .i64 0) (by simp [go_sem])
  have e1 := cell_later hb1 (a := ⟨w.heap.size + 1, 1, none⟩) (v := .slice none 0 0) (by simp [go_sem])
  have f0 : w1.frozen? ⟨w.heap.size + 1, 0, none⟩ = false := by rw [(bcell hb1).2 _ _ (by simp)]; simp [go_sem]
  have f1 : w1.frozen? ⟨w.heap.size + 1, 1, none⟩ = false := by rw [(bcell hb1).2 _ _ (by simp)]; simp [go_sem]
  have B1 : Hid (Below w.heap.size w w1) := (((Below.refl _ _).alloc (Nat.le_refl _) _).alloc (by simp) _).trans (hb1.mono (by simp; omega))
  clear hb1
  rcases hcases with hs | ⟨hs, h1⟩ | ⟨hs, h1, h2⟩
  all_goals
    go_wp2_with (go_at_call 42; refine (inReach_far _ _).mono ?_; rintro e w' ⟨rfl, rfl⟩)
    refine bodyPost_ret (v := .tuple #[.agg #[.int .i64 0, .slice none 0 0], .bool false]) (by simp [results, Try.results19, go_sem, e0, e1]) rfl ?_
    exact nothing_move B1.out (by omega)

set_option maxRecDepth 100000 in
set_option maxHeartbeats 4000000 in
theorem implShapeMove_in (k : Int) (a : Option Addr) (cap : Nat) (ps : List (Int × Int)) (dx dy : Int) (w : World) (hp : PtsAt w a ps) (hl : ps.length ≤ 6) (h0 : 0 < ps.length) (hok : shapeOk k ps = true) (hfx : far2 dx = true) (hfy : far2 dy = true) (hx1 : -2000 ≤ dx) (hx2 : dx ≤ 2000) (hy1 : -2000 ≤ dy) (hy2 : dy ≤ 2000) :
    Calls Try.prog 19 #[.agg #[.int .i64 k, .slice a ps.length cap], .int .i64 dx, .int .i64 dy] w
      (MoveAns w (mvK k ps dx dy) (mvP k ps dx dy) (mvB k ps dx dy)) := by
  have HP := Lib.hid hp
  have HG := Lib.hid (shapeOk_parts hok).2.2
  obtain ⟨b, off, rfl, hb, _, _⟩ := hp 0 h0
  clear hp
  obtain ⟨i0, hi, hz0, hz1, hz2⟩ := info_parts infoPt
  have HI := Lib.hid hi
  have HZ0 := Lib.hid hz0
  have HZ1 := Lib.hid hz1
  have HZ2 := Lib.hid hz2
  clear hi hz0 hz1 hz2
  go_enter Try.func19, Try.ntmps19
  go_wp2_with fail
  refine (implShapeOk_any _ _ _ _ _ (HP.out.below (((Below.refl _ _).alloc (Nat.le_refl _) _).alloc (by simp) _))).mono ?_
  rintro e w1 ⟨rfl, hb1⟩
  have c0 := cell_later hb1 (a := ⟨w.heap.size, 0, none⟩) (v := .int .i64 k) (by simp [go_sem])
  have c1 := cell_later hb1 (a := ⟨w.heap.size, 1, none⟩) (v := .slice (some ⟨b, off, none⟩) ps.length cap) (by simp [go_sem])
  have e0 := cell_later hb1 (a := ⟨w.heap.size + 1, 0, none⟩) (v := .int .i64 0) (by simp [go_sem])
  have e1 := cell_later hb1 (a := ⟨w.heap.size + 1, 1, none⟩) (v := .slice none 0 0) (by simp [go_sem])
  have f0 : w1.frozen? ⟨w.heap.size + 1, 0, none⟩ = false := by rw [(bcell hb1).2 _ _ (by simp)]; simp [go_sem]
  have f1 : w1.frozen? ⟨w.heap.size + 1, 1, none⟩ = false := by rw [(bcell hb1).2 _ _ (by simp)]; simp [go_sem]
  have B1 : Hid (Below w.heap.size w w1) := (((Below.refl _ _).alloc (Nat.le_refl _) _).alloc (by simp) _).trans (hb1.mono (by simp; omega))
  have z1 : w.heap.size + 1 < w1.heap.size := World.block_lt_of_cell? _ _ e0
  have z0 : w.heap.size < w1.heap.size := by omega
  clear hb1
  have ba : Below w1.heap.size w1 (w1.alloc (.cells #[.int .i64 k, .slice none 0 0] 25)) := (Below.refl _ _).alloc (Nat.le_refl _) _
  have C1 := Lib.hid (cell_later ba c1)
  have E0 := Lib.hid (cell_later ba e0)
  have E1 := Lib.hid (cell_later ba e1)
  have F0 := Lib.hid ((ba.frozen (p := ⟨w.heap.size + 1, 0, none⟩) (by show w.heap.size + 1 < _; omega)).trans f0)
  have F1 := Lib.hid ((ba.frozen (p := ⟨w.heap.size + 1, 1, none⟩) (by show w.heap.size + 1 < _; omega)).trans f1)
  have B2 := Lib.hid (B1.out.trans (ba.mono (by omega)))
  have L0 : Hid (Laying (w1.alloc (.cells #[.int .i64 k, .slice none 0 0] 25)) w1.heap.size k (movedTo ps dx dy 0) (w1.alloc (.cells #[.int .i64 k, .slice none 0 0] 25)) (.slice none 0 0)) := by
    obtain ⟨t1, t2, t3, t4⟩ := cell_two w1 (.int .i64 k) (.slice none 0 0) 25
    exact ⟨by simpa [flat, movedTo] using World.ownsRow_nil _ _ _ _, World.grownBy.refl _ _, t1, t2, t4⟩
  go_wp2_with (go_at_call 42; refine (inReach_far _ _).mono ?_; rintro e w' ⟨rfl, rfl⟩)
  have y0 : w1.heap.size < (w1.alloc (.cells #[.int .i64 k, .slice none 0 0] 25)).heap.size := by simp
  generalize (w1.alloc (.cells #[.int .i64 k, .slice none 0 0] 25)) = W at *
  clear c0 c1 e0 e1 f0 f1 ba
  go_loopw [10, 31] (fun _ i wr => ∃ (j : Nat) (v : Value), j ≤ ps.length ∧ i = .int .i64 j ∧ Laying W w1.heap.size k (movedTo ps dx dy j) wr v) (fun _ i _ => ps.length - (intOf i).toNat)
  case atStart => exact ⟨0, _, Nat.zero_le _, rfl, L0.out⟩
  case round =>
    clear L0
    obtain ⟨j, v, hj, rfl, hL⟩ := hrel
    by_cases hlt : j < ps.length
    · obtain ⟨b', off', he, _, hd1, hd2⟩ := HP.out j hlt
      obtain ⟨rfl, rfl⟩ : b = b' ∧ off = off' := by simpa using he
      clear he
      rw [← B2.out.cell (p := ⟨b, _, none⟩) hb] at hd1 hd2
      replace hd1 := hL.far hd1 (by omega)
      replace hd2 := hL.far hd2 (by omega)
      have hk := hL.kind
      have hv := hL.pts
      have hf := hL.soft
      have zr : w1.heap.size < wr.heap.size := World.block_lt_of_cell? _ _ hv
      have zb : b < wr.heap.size := by omega
      have hlen : (movedTo ps dx dy j).length = j := by unfold movedTo; rw [List.length_take, moved_len]; omega
      have hn4 : (movedTo ps dx dy j).length ≤ 6 := by omega
      have hn5 := hL.grown.size
      have gb := good_bd HG.out (i := j) hlt
      obtain ⟨⟨g1, g2⟩, g3, g4⟩ := gb
      have HL := Lib.hid hL
      have HO := Lib.hid hL.own
      have HST := Lib.hid (moved_take (dx := dx) (dy := dy) hlt)
      clear hL hlen
      have HWB : Hid (Below wr.heap.size wr ((wr.alloc (.cells #[.int .i64 (px ps j), .int .i64 (py ps j)] 32)).alloc (.cells #[.int .i64 (px ps j + dx), .int .i64 (py ps j + dy)] 32))) := ((Below.refl _ _).alloc (Nat.le_refl _) _).alloc (by simp) _
      go_wp2_with (at_builtin; refine wpList_append_lies _ (by rfl) _ _ _ (by rfl) W.heap.size 32 i0 _ 2 16 Try.underlying23 HI.out HZ0.out HZ1.out HZ2.out rfl (by omega) v (movedTo ps dx dy j).length (flat (movedTo ps dx dy j)) (by rfl) ((HO.out.alloc _).alloc _) ⟨wr.heap.size + 1, 0, none⟩ 1 1 [.int .i64 (px ps j + dx), .int .i64 (py ps j + dy)] (by rfl) (by rfl) (World.news_of_block (cs := #[.int .i64 (px ps j + dx), .int .i64 (py ps j + dy)]) (t := 32) (fr := (0, 0)) (heap_second wr _ _)) (by simp [Value.oneCell']) (by omega) (by unfold maxLen; omega) (by omega) (by simp; omega) (wr.heap.size + 1 + 1) (by simp) ?_; intro gg cap' wa hown1 hgrow hat hlt'; obtain ⟨x1, x2, x3⟩ := HL.out.after2 y0 HWB.out hgrow; have HST2 := Lib.hid (HL.out.step2 (p := (px ps j + dx, py ps j + dy)) y0 hown1 HWB.out hgrow); clear hown1 hgrow hat)
      go_roundw
      case rel => exact ⟨j + 1, _, by omega, by go_num, HST.out ▸ HST2.out⟩
      case measure => simp [intOf]; omega
    · obtain rfl : j = ps.length := by omega
      have htk : movedTo ps dx dy ps.length = moved ps dx dy := List.take_of_length_le (by rw [moved_len]; omega)
      rw [htk] at hL
      clear htk
      have hfar : ∀ {x o : Nat} {u : Value}, x ≠ w1.heap.size → W.cell? ⟨x, o, none⟩ = some u → wr.cell? ⟨x, o, none⟩ = some u := fun hne h => hL.far h hne
      have e0 := hfar (by omega) E0.out
      have e1 := hfar (by omega) E1.out
      have f0 : wr.frozen? ⟨w.heap.size + 1, 0, none⟩ = false := by rw [hL.grown.frozen_far _ (World.block_lt_of_cell? _ _ E0.out) (by simp; omega)]; exact F0.out
      have f1 : wr.frozen? ⟨w.heap.size + 1, 1, none⟩ = false := by rw [hL.grown.frozen_far _ (World.block_lt_of_cell? _ _ E1.out) (by simp; omega)]; exact F1.out
      have d0 := hL.kind
      have d1 := hL.pts
      obtain ⟨a2, cap2, rfl, hM, hS, hnew⟩ := owned_pts hL.own rfl
      have BR : Hid (Below w.heap.size w wr) := B2.out.grown hL.grown B2.out.size (fun j e => by simp at e; omega)
      obtain ⟨g, rfl⟩ : ∃ g, a2 = some ⟨g, 0, none⟩ := by
        obtain ⟨_, ⟨e, h⟩ | ⟨g, cap3, cur, e, _⟩⟩ := hL.own
        · rw [moved_len] at h; omega
        · exact ⟨g, by simpa using (Value.slice.inj e).1⟩
      have hg1 := (hnew g rfl).1
      have hg2 := (hnew g rfl).2
      have OKC := implShapeOk_any k (some ⟨g, 0, none⟩) cap2 (moved ps dx dy) wr hM
      rw [moved_len] at OKC d1
      have OK := Lib.hid OKC
      have HM := Lib.hid hM
      have HS := Lib.hid hS
      have zz : w.heap.size + 1 < wr.heap.size := World.block_lt_of_cell? _ _ e0
      clear hL hfar OKC hM hS hnew
      go_wp2_with fail
      refine OK.out.mono ?_
      rintro e w5 ⟨rfl, hb5⟩
      replace d0 := cell_later hb5 d0
      replace d1 := cell_later hb5 d1
      replace e0 := cell_later hb5 e0
      replace e1 := cell_later hb5 e1
      replace f0 := (hb5.frozen (p := ⟨w.heap.size + 1, 0, none⟩) zz).trans f0
      replace f1 := (hb5.frozen (p := ⟨w.heap.size + 1, 1, none⟩) zz).trans f1
      have B5 : Hid (Below w.heap.size w w5) := BR.out.trans (hb5.mono BR.out.size)
      have M5 := Lib.hid (HM.out.below hb5)
      have S5 := Lib.hid (HS.out.below HM.out hb5)
      have z5 := hb5.size
      clear hb5 OK
      by_cases hmv : shapeOk k (moved ps dx dy) = true
      · have V1 : Hid (mvB k ps dx dy = true) := hmv
        have V2 : Hid (mvK k ps dx dy = k) := by simp [Hid, mvK, hmv]
        have V3 : Hid (mvP k ps dx dy = moved ps dx dy) := by simp [Hid, mvP, hmv]
        go_wp2
        refine bodyPost_ret (v := .tuple #[.agg #[.int .i64 k, .slice (some ⟨g, 0, none⟩) ps.length cap2], .bool true]) (by simp [results, Try.results19, go_sem, e0, e1]) rfl ?_
        rw [V1.out, V2.out, V3.out]
        have := some_move (cap := cap2) (k := k) (x0 := .int .i64 k) (x1 := .slice (some ⟨g, 0, none⟩) ps.length cap2) B5.out (r := w.heap.size + 1) (by omega) (by omega) (by omega) (by omega) M5.out S5.out
        rw [moved_len] at this
        exact this
      · have hmv' : shapeOk k (moved ps dx dy) = false := by simpa using hmv
        have V1 : Hid (mvB k ps dx dy = false) := hmv'
        have V2 : Hid (mvK k ps dx dy = 0) := by simp [Hid, mvK, hmv']
        have V3 : Hid (mvP k ps dx dy = []) := by simp [Hid, mvP, hmv']
        clear hmv
        go_wp2
        refine bodyPost_ret (v := .tuple #[.agg #[.int .i64 0, .slice none 0 0], .bool false]) (by simp [results, Try.results19, go_sem, e0, e1]) rfl ?_
        rw [V1.out, V2.out, V3.out]
        exact nothing_move B5.out (by omega)

/-- what comes of a move, whatever it is given -/
def moveK (k : Int) (ps : List (Int × Int)) (dx dy : Int) : Int := if moveIn k ps dx dy then mvK k ps dx dy else 0
def moveP (k : Int) (ps : List (Int × Int)) (dx dy : Int) : List (Int × Int) := if moveIn k ps dx dy then mvP k ps dx dy else []
def moveB (k : Int) (ps : List (Int × Int)) (dx dy : Int) : Bool := if moveIn k ps dx dy then mvB k ps dx dy else false

theorem moveIn_parts {k : Int} {ps : List (Int × Int)} {dx dy : Int} (h : moveIn k ps dx dy = true) : shapeOk k ps = true ∧ far2 dx = true ∧ far2 dy = true ∧ (-2000 ≤ dx ∧ dx ≤ 2000) ∧ -2000 ≤ dy ∧ dy ≤ 2000 := by
  unfold moveIn at h
  simp only [Bool.and_eq_true] at h
  have h1 := h.2.1
  have h2 := h.2.2
  simp [far2] at h1 h2
  exact ⟨h.1, h.2.1, h.2.2, h1, h2⟩

theorem specShapeMove_any (k : Int) (a : Option Addr) (cap : Nat) (ps : List (Int × Int)) (dx dy : Int) (w : World) (hp : PtsAt w a ps) (hl : ps.length ≤ 1048576) :
    Calls Try.prog 20 #[.agg #[.int .i64 k, .slice a ps.length cap], .int .i64 dx, .int .i64 dy] w (MoveAns w (moveK k ps dx dy) (moveP k ps dx dy) (moveB k ps dx dy)) := by
  by_cases h : moveIn k ps dx dy = true
  · simp only [moveK, moveP, moveB, h, if_true]
    obtain ⟨h1, h2, h3, ⟨h4, h5⟩, h6, h7⟩ := moveIn_parts h
    exact specShapeMove_in k a cap ps dx dy w hp (shapeOk_parts h1).1 (ok_pos' h1) h1 h4 h5 h6 h7
  · have h' : moveIn k ps dx dy = false := by simpa using h
    simp only [moveK, moveP, moveB, h', Bool.false_eq_true, if_false]
    exact specShapeMove_out k a cap ps dx dy w hp hl h'

theorem implShapeMove_any (k : Int) (a : Option Addr) (cap : Nat) (ps : List (Int × Int)) (dx dy : Int) (w : World) (hp : PtsAt w a ps) :
    Calls Try.prog 19 #[.agg #[.int .i64 k, .slice a ps.length cap], .int .i64 dx, .int .i64 dy] w (MoveAns w (moveK k ps dx dy) (moveP k ps dx dy) (moveB k ps dx dy)) := by
  by_cases h : moveIn k ps dx dy = true
  · simp only [moveK, moveP, moveB, h, if_true]
    obtain ⟨h1, h2, h3, ⟨h4, h5⟩, h6, h7⟩ := moveIn_parts h
    exact implShapeMove_in k a cap ps dx dy w hp (shapeOk_parts h1).1 (ok_pos' h1) h1 h2 h3 h4 h5 h6 h7
  · have h' : moveIn k ps dx dy = false := by simpa using h
    simp only [moveK, moveP, moveB, h', Bool.false_eq_true, if_false]
    exact implShapeMove_out k a cap ps dx dy w hp h'

theorem moveP_len {k : Int} {ps : List (Int × Int)} {dx dy : Int} (h : ps.length ≤ 1048576) : (moveP k ps dx dy).length ≤ 1048576 := by
  unfold moveP mvP
  split
  · split
    · rw [moved_len]; exact h
    · simp
  · simp
end Go.Proofs.Ytdfadpejddhbkaa
