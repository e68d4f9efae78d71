/- Proved here: the code's ShapeTurn answers the shape begun at its least row, in memory of its own, or nothing; slices that have room for their points. -/
import Derived.Test.YtopbpokcffdjnaaWTurnK
import Derived.Test.YtopbpokcffdjnaaWBackI
namespace Go.Proofs.Ytopbpokcffdjnaa
set_option linter.unusedVariables false
open Go.ChangeShapes Go.WideShapes Go.ChangeAt Go.RowKit Go.Deep

theorem m_turn_dot (w : World) : (method 206 80 (.agg #[]) "loop.example/townland/impl.turn").run Try.prog w = .ok (82, .agg #[]) w := by kernel_rfl
theorem m_turn_line (w : World) : (method 206 81 (.agg #[]) "loop.example/townland/impl.turn").run Try.prog w = .ok (87, .agg #[]) w := by kernel_rfl
theorem m_turn_ring (w : World) : (method 206 82 (.agg #[]) "loop.example/townland/impl.turn").run Try.prog w = .ok (92, .agg #[]) w := by kernel_rfl

/-- the answer, behind the stores into the result's box -/
theorem turn_answer {w w1 w2 : World} {r g cap : Nat} {k : Int} {qs : List (Int × Int)} {x0 x1 : Value} (hb1 : Below w.heap.size w w1) (hb2 : Below w1.heap.size w1 w2) (hr : w.heap.size ≤ r) (hr1 : r < w1.heap.size) (hp : PtsAt w2 (some ⟨g, 0, none⟩) qs) (hs : Soft w2 (some ⟨g, 0, none⟩) qs.length) (hg : w1.heap.size ≤ g) (hlt : g < w2.heap.size) :
    ShapeAns w k qs (.returned (.agg #[.int .i64 k, .slice (some ⟨g, 0, none⟩) qs.length cap])) ((w2.setCell ⟨r, 0, none⟩ x0).setCell ⟨r, 1, none⟩ x1) := by
  have hne : blk (some ⟨g, 0, none⟩) ≠ some r := by simp [blk]; omega
  have hz := hb1.size
  have h1 : PtsAt ((w2.setCell ⟨r, 0, none⟩ x0).setCell ⟨r, 1, none⟩ x1) (some ⟨g, 0, none⟩) qs := (hp.set hne).set hne
  have h2 : Soft ((w2.setCell ⟨r, 0, none⟩ x0).setCell ⟨r, 1, none⟩ x1) (some ⟨g, 0, none⟩) qs.length := (hs.set _ _).set _ _
  refine ⟨_, cap, rfl, h1, h2, fun x e => ?_, ((hb1.trans (hb2.mono hz)).setCell hr _).setCell hr _⟩
  obtain rfl : g = x := by simpa [blk] using e
  refine ⟨by omega, ?_⟩
  simpa [World.setCell] using hlt

set_option maxHeartbeats 2000000 in
theorem implShapeTurn_dot (b off cap : Nat) (ps : List (Int × Int)) (w : World) (hp : PtsAt w (some ⟨b, off, none⟩) ps) (h0 : 0 < ps.length) (hcap : ps.length ≤ cap) (hok : shapeOk 1 ps = true) :
    Calls Try.prog 32 #[.agg #[.int .i64 1, .slice (some ⟨b, off, none⟩) ps.length cap]] w (ShapeAns w 1 (ps)) := by
  have HP := Lib.hid hp
  have hl := (shapeOk_parts hok).1
  have mm := m_turn_dot
  clear hp
  have HV : Hid (okKind 1 ps = .iface 80 (.agg #[])) := by simp [Hid, okKind, hok, kindVal]
  go_enter Try.func32, Try.ntmps32
  go_wp2_with fail
  refine (kindOfOk_any _ _ _ _ _ (HP.out.below (((Below.refl _ _).alloc (Nat.le_refl _) _).alloc (by simp) _))).mono ?_
  rintro e w1 ⟨rfl, hb1⟩
  rw [HV.out]
  have c0 := cell_later hb1 (a := ⟨w.heap.size, 0, none⟩) (v := .int .i64 1) (by simp [go_sem])
  have c1 := cell_later hb1 (a := ⟨w.heap.size, 1, none⟩) (v := .slice (some ⟨b, off, none⟩) ps.length cap) (by simp [go_sem])
  have e0 := cell_later hb1 (a := ⟨w.heap.size + 1, 0, none⟩) (v := .int .i64 0) (by simp [go_sem])
  have e1 := cell_later hb1 (a := ⟨w.heap.size + 1, 1, none⟩) (v := .slice none 0 0) (by simp [go_sem])
  have f0 : w1.frozen? ⟨w.heap.size + 1, 0, none⟩ = false := by rw [(bcell hb1).2 _ _ (by simp)]; simp [go_sem]
  have f1 : w1.frozen? ⟨w.heap.size + 1, 1, none⟩ = false := by rw [(bcell hb1).2 _ _ (by simp)]; simp [go_sem]
  have B1 : Hid (Below w.heap.size w w1) := (((Below.refl _ _).alloc (Nat.le_refl _) _).alloc (by simp) _).trans (hb1.mono (by simp; omega))
  have z1 : w.heap.size + 1 < w1.heap.size := World.block_lt_of_cell? _ _ e0
  clear hb1
  go_wp2
  go_region_held3 (fun w' => w'.cell? ⟨w.heap.size, 0, none⟩ = some (.int .i64 1) ∧ w'.cell? ⟨w.heap.size, 1, none⟩ = some (.slice (some ⟨b, off, none⟩) ps.length cap)) (first | exact ⟨c0, c1⟩ | exact ⟨c0', c1'⟩ | go_keep) (first
    | (go_at_call 82; refine (dotTurn_any _ _ _ _ _ (HP.out.below B1.out.drew) (by omega) h0).mono ?_; rintro e w2 ⟨g, cap2, rfl, hpt, hso, hg, hglt, hb2⟩; have c0' := cell_later hb2 c0; have c1' := cell_later hb2 c1; have e0' := cell_later hb2 e0; have e1' := cell_later hb2 e1; have f0' := (hb2.frozen (p := ⟨w.heap.size + 1, 0, none⟩) z1).trans f0; have f1' := (hb2.frozen (p := ⟨w.heap.size + 1, 1, none⟩) z1).trans f1; have Q2 := Lib.hid hpt; have S2 := Lib.hid hso; have B2 := Lib.hid hb2; clear hpt hso hb2))
  all_goals go_wp2
  all_goals refine bodyPost_ret (v := .agg #[.int .i64 1, .slice (some ⟨g, 0, none⟩) (ps).length cap2]) (by simp [results, Try.results32, go_sem, e0', e1']) rfl ?_
  all_goals exact turn_answer B1.out ⟨B2.out.os, B2.out.tape, B2.out.output, B2.out.size, B2.out.block⟩ (by omega) z1 Q2.out S2.out hg hglt

set_option maxHeartbeats 2000000 in
theorem implShapeTurn_line (b off cap : Nat) (ps : List (Int × Int)) (w : World) (hp : PtsAt w (some ⟨b, off, none⟩) ps) (h0 : 0 < ps.length) (hcap : ps.length ≤ cap) (hok : shapeOk 2 ps = true) :
    Calls Try.prog 32 #[.agg #[.int .i64 2, .slice (some ⟨b, off, none⟩) ps.length cap]] w (ShapeAns w 2 (ps)) := by
  have HP := Lib.hid hp
  have hl := (shapeOk_parts hok).1
  have mm := m_turn_line
  clear hp
  have HV : Hid (okKind 2 ps = .iface 81 (.agg #[])) := by simp [Hid, okKind, hok, kindVal]
  go_enter Try.func32, Try.ntmps32
  go_wp2_with fail
  refine (kindOfOk_any _ _ _ _ _ (HP.out.below (((Below.refl _ _).alloc (Nat.le_refl _) _).alloc (by simp) _))).mono ?_
  rintro e w1 ⟨rfl, hb1⟩
  rw [HV.out]
  have c0 := cell_later hb1 (a := ⟨w.heap.size, 0, none⟩) (v := .int .i64 2) (by simp [go_sem])
  have c1 := cell_later hb1 (a := ⟨w.heap.size, 1, none⟩) (v := .slice (some ⟨b, off, none⟩) ps.length cap) (by simp [go_sem])
  have e0 := cell_later hb1 (a := ⟨w.heap.size + 1, 0, none⟩) (v := .int .i64 0) (by simp [go_sem])
  have e1 := cell_later hb1 (a := ⟨w.heap.size + 1, 1, none⟩) (v := .slice none 0 0) (by simp [go_sem])
  have f0 : w1.frozen? ⟨w.heap.size + 1, 0, none⟩ = false := by rw [(bcell hb1).2 _ _ (by simp)]; simp [go_sem]
  have f1 : w1.frozen? ⟨w.heap.size + 1, 1, none⟩ = false := by rw [(bcell hb1).2 _ _ (by simp)]; simp [go_sem]
  have B1 : Hid (Below w.heap.size w w1) := (((Below.refl _ _).alloc (Nat.le_refl _) _).alloc (by simp) _).trans (hb1.mono (by simp; omega))
  have z1 : w.heap.size + 1 < w1.heap.size := World.block_lt_of_cell? _ _ e0
  clear hb1
  go_wp2
  go_region_held3 (fun w' => w'.cell? ⟨w.heap.size, 0, none⟩ = some (.int .i64 2) ∧ w'.cell? ⟨w.heap.size, 1, none⟩ = some (.slice (some ⟨b, off, none⟩) ps.length cap)) (first | exact ⟨c0, c1⟩ | exact ⟨c0', c1'⟩ | go_keep) (first
    | (go_at_call 87; refine (lineTurn_any _ _ _ _ _ (HP.out.below B1.out.drew) (by omega) h0).mono ?_; rintro e w2 ⟨g, cap2, rfl, hpt, hso, hg, hglt, hb2⟩; have c0' := cell_later hb2 c0; have c1' := cell_later hb2 c1; have e0' := cell_later hb2 e0; have e1' := cell_later hb2 e1; have f0' := (hb2.frozen (p := ⟨w.heap.size + 1, 0, none⟩) z1).trans f0; have f1' := (hb2.frozen (p := ⟨w.heap.size + 1, 1, none⟩) z1).trans f1; have Q2 := Lib.hid hpt; have S2 := Lib.hid hso; have B2 := Lib.hid hb2; clear hpt hso hb2))
  all_goals go_wp2
  all_goals refine bodyPost_ret (v := .agg #[.int .i64 2, .slice (some ⟨g, 0, none⟩) (ps).length cap2]) (by simp [results, Try.results32, go_sem, e0', e1']) rfl ?_
  all_goals exact turn_answer B1.out ⟨B2.out.os, B2.out.tape, B2.out.output, B2.out.size, B2.out.block⟩ (by omega) z1 Q2.out S2.out hg hglt

set_option maxHeartbeats 2000000 in
theorem implShapeTurn_ring (b off cap : Nat) (ps : List (Int × Int)) (w : World) (hp : PtsAt w (some ⟨b, off, none⟩) ps) (h0 : 0 < ps.length) (hcap : ps.length ≤ cap) (hok : shapeOk 3 ps = true) :
    Calls Try.prog 32 #[.agg #[.int .i64 3, .slice (some ⟨b, off, none⟩) ps.length cap]] w (ShapeAns w 3 (best ps (ps.length - 1))) := by
  have HP := Lib.hid hp
  have hl := (shapeOk_parts hok).1
  have mm := m_turn_ring
  clear hp
  have HV : Hid (okKind 3 ps = .iface 82 (.agg #[])) := by simp [Hid, okKind, hok, kindVal]
  go_enter Try.func32, Try.ntmps32
  go_wp2_with fail
  refine (kindOfOk_any _ _ _ _ _ (HP.out.below (((Below.refl _ _).alloc (Nat.le_refl _) _).alloc (by simp) _))).mono ?_
  rintro e w1 ⟨rfl, hb1⟩
  rw [HV.out]
  have c0 := cell_later hb1 (a := ⟨w.heap.size, 0, none⟩) (v := .int .i64 3) (by simp [go_sem])
  have c1 := cell_later hb1 (a := ⟨w.heap.size, 1, none⟩) (v := .slice (some ⟨b, off, none⟩) ps.length cap) (by simp [go_sem])
  have e0 := cell_later hb1 (a := ⟨w.heap.size + 1, 0, none⟩) (v := .int .i64 0) (by simp [go_sem])
  have e1 := cell_later hb1 (a := ⟨w.heap.size + 1, 1, none⟩) (v := .slice none 0 0) (by simp [go_sem])
  have f0 : w1.frozen? ⟨w.heap.size + 1, 0, none⟩ = false := by rw [(bcell hb1).2 _ _ (by simp)]; simp [go_sem]
  have f1 : w1.frozen? ⟨w.heap.size + 1, 1, none⟩ = false := by rw [(bcell hb1).2 _ _ (by simp)]; simp [go_sem]
  have B1 : Hid (Below w.heap.size w w1) := (((Below.refl _ _).alloc (Nat.le_refl _) _).alloc (by simp) _).trans (hb1.mono (by simp; omega))
  have z1 : w.heap.size + 1 < w1.heap.size := World.block_lt_of_cell? _ _ e0
  clear hb1
  go_wp2
  go_region_held3 (fun w' => w'.cell? ⟨w.heap.size, 0, none⟩ = some (.int .i64 3) ∧ w'.cell? ⟨w.heap.size, 1, none⟩ = some (.slice (some ⟨b, off, none⟩) ps.length cap)) (first | exact ⟨c0, c1⟩ | exact ⟨c0', c1'⟩ | go_keep) (first
    | (go_at_call 92; refine (ringTurn_any _ _ _ _ _ (HP.out.below B1.out.drew) (by omega) hcap h0).mono ?_; rintro e w2 ⟨g, cap2, rfl, hpt, hso, hg, hglt, hb2⟩; have c0' := cell_later hb2 c0; have c1' := cell_later hb2 c1; have e0' := cell_later hb2 e0; have e1' := cell_later hb2 e1; have f0' := (hb2.frozen (p := ⟨w.heap.size + 1, 0, none⟩) z1).trans f0; have f1' := (hb2.frozen (p := ⟨w.heap.size + 1, 1, none⟩) z1).trans f1; have Q2 := Lib.hid hpt; have S2 := Lib.hid hso; have B2 := Lib.hid hb2; clear hpt hso hb2))
  all_goals go_wp2
  all_goals refine bodyPost_ret (v := .agg #[.int .i64 3, .slice (some ⟨g, 0, none⟩) (best ps (ps.length - 1)).length cap2]) (by simp [results, Try.results32, go_sem, e0', e1']) rfl ?_
  all_goals exact turn_answer B1.out ⟨B2.out.os, B2.out.tape, B2.out.output, B2.out.size, B2.out.block⟩ (by omega) z1 Q2.out S2.out hg hglt

set_option maxHeartbeats 2000000 in
theorem implShapeTurn_no (k : Int) (a : Option Addr) (cap : Nat) (ps : List (Int × Int)) (w : World) (hp : PtsAt w a ps) (hok : shapeOk k ps = false) :
    Calls Try.prog 32 #[.agg #[.int .i64 k, .slice a ps.length cap]] w (ShapeAns w 0 []) := by
  have HP := Lib.hid hp
  clear hp
  go_enter Try.func32, Try.ntmps32
  go_wp2_with fail
  refine (kindOfOk_any _ _ _ _ _ (HP.out.below (((Below.refl _ _).alloc (Nat.le_refl _) _).alloc (by simp) _))).mono ?_
  rintro e w1 ⟨rfl, hb1⟩
  have e0 := cell_later hb1 (a := ⟨w.heap.size + 1, 0, none⟩) (v := .int .i64 0) (by simp [go_sem])
  have e1 := cell_later hb1 (a := ⟨w.heap.size + 1, 1, none⟩) (v := .slice none 0 0) (by simp [go_sem])
  have f0 : w1.frozen? ⟨w.heap.size + 1, 0, none⟩ = false := by rw [(bcell hb1).2 _ _ (by simp)]; simp [go_sem]
  have f1 : w1.frozen? ⟨w.heap.size + 1, 1, none⟩ = false := by rw [(bcell hb1).2 _ _ (by simp)]; simp [go_sem]
  have B1 : Hid (Below w.heap.size w w1) := (((Below.refl _ _).alloc (Nat.le_refl _) _).alloc (by simp) _).trans (hb1.mono (by simp; omega))
  clear hb1
  go_wp2
  refine bodyPost_ret (v := .agg #[.int .i64 0, .slice none 0 0]) (by simp [results, Try.results32, go_sem, e0, e1]) rfl ?_
  exact nothing_ans B1.out (by omega)

theorem implShapeTurn_any (k : Int) (a : Option Addr) (cap : Nat) (ps : List (Int × Int)) (w : World) (hp : PtsAt w a ps) (hcap : ps.length ≤ cap) :
    Calls Try.prog 32 #[.agg #[.int .i64 k, .slice a ps.length cap]] w (ShapeAns w (turnK k ps) (turnP k ps)) := by
  by_cases hok : shapeOk k ps = true
  · simp only [turnK, turnP, hok, if_true]
    have h0 := ok_pos' hok
    obtain ⟨b, off, rfl, _, _, _⟩ := hp 0 h0
    rcases kind_cases hok with rfl | rfl | rfl
    · exact implShapeTurn_dot b off cap ps w hp h0 hcap hok
    · exact implShapeTurn_line b off cap ps w hp h0 hcap hok
    · exact implShapeTurn_ring b off cap ps w hp h0 hcap hok
  · have hok' : shapeOk k ps = false := by simpa using hok
    simp only [turnK, turnP, hok', Bool.false_eq_true, if_false]
    exact implShapeTurn_no k a cap ps w hp hok'

theorem turnP_len {k : Int} {ps : List (Int × Int)} (h : ps.length ≤ 1048576) : (turnP k ps).length ≤ 1048576 := by
  unfold turnP turned
  split
  · rename_i hok
    have := ok_pos' hok
    split
    · rw [best_len _ _ (by omega)]
      exact h
    · exact h
  · simp
end Go.Proofs.Ytopbpokcffdjnaa
