/- Proved here: the model's ShapeTurn answers the shape begun at its least row, in memory of its own, or nothing; rows of at most 1,048,576 points whose slice has room for them. -/
import Derived.Test.YtopbpokcffdjnaaWTurnR
namespace Go.Proofs.Ytopbpokcffdjnaa
set_option linter.unusedVariables false
open Go.ChangeShapes Go.WideShapes Go.ChangeAt Go.RowKit Go.Deep

/-- the least of the rows begun at the places up to j -/
def best (ps : List (Int × Int)) : Nat → List (Int × Int)
  | 0 => ps
  | j + 1 => if rowAhead (rowAt ps (j + 1)) (best ps j) then rowAt ps (j + 1) else best ps j

theorem best_len (ps : List (Int × Int)) : ∀ j, j < ps.length → (best ps j).length = ps.length
  | 0, _ => rfl
  | j + 1, h => by
    unfold best
    split
    · exact rowAt_len ps (by omega)
    · exact best_len ps j (by omega)

theorem best_step (ps : List (Int × Int)) {m : Nat} (h : 0 < m) : best ps m = if rowAhead (rowAt ps m) (best ps (m - 1)) then rowAt ps m else best ps (m - 1) := by
  cases m with
  | zero => omega
  | succ j => rfl

/-- a shape turned -/
def turned (k : Int) (ps : List (Int × Int)) : List (Int × Int) := if k = 3 then best ps (ps.length - 1) else ps
def turnK (k : Int) (ps : List (Int × Int)) : Int := if shapeOk k ps then k else 0
def turnP (k : Int) (ps : List (Int × Int)) : List (Int × Int) := if shapeOk k ps then turned k ps else []

/-- a round's world: the box of the answer, and the row that it holds -/
def Turning (B : Nat) (W : World) (c : Nat) (k : Int) (qs : List (Int × Int)) (g cg : Nat) (wr : World) : Prop :=
  wr.cell? ⟨c, 0, none⟩ = some (.int .i64 k) ∧ wr.cell? ⟨c, 1, none⟩ = some (.slice (some ⟨g, 0, none⟩) qs.length cg) ∧ wr.frozen? ⟨c, 1, none⟩ = false ∧ PtsAt wr (some ⟨g, 0, none⟩) qs ∧ Soft wr (some ⟨g, 0, none⟩) qs.length ∧ B ≤ g ∧ g ≠ c ∧ g < wr.heap.size ∧ W.grownBy wr (some c)

theorem Turning.below {B : Nat} {W : World} {c : Nat} {k : Int} {qs : List (Int × Int)} {g cg : Nat} {wr w' : World} (h : Turning B W c k qs g cg wr) (hb : Below wr.heap.size wr w') : Turning B W c k qs g cg w' := by
  obtain ⟨h1, h2, h3, h4, h5, h6, h7, h8, h9⟩ := h
  have hc : c < wr.heap.size := World.block_lt_of_cell? _ _ h1
  exact ⟨cell_later hb h1, cell_later hb h2, (hb.frozen (p := ⟨c, 1, none⟩) hc).trans h3, h4.below hb, h5.below h4 hb, h6, h7, Nat.lt_of_lt_of_le h8 hb.size, h9.trans ⟨hb.os, hb.tape, hb.output, hb.size, fun k hk _ => hb.block k hk⟩⟩

theorem Turning.put {B : Nat} {W : World} {c : Nat} {k : Int} {qs rs : List (Int × Int)} {g cg g2 cg2 : Nat} {wr : World} (h : Turning B W c k qs g cg wr) (hp : PtsAt wr (some ⟨g2, 0, none⟩) rs) (hs : Soft wr (some ⟨g2, 0, none⟩) rs.length) (hB : B ≤ g2) (hne : g2 ≠ c) (hlt : g2 < wr.heap.size) :
    Turning B W c k rs g2 cg2 (wr.setCell ⟨c, 1, none⟩ (.slice (some ⟨g2, 0, none⟩) rs.length cg2)) := by
  obtain ⟨h1, h2, h3, h4, h5, h6, h7, h8, h9⟩ := h
  refine ⟨?_, World.cell?_setCell_same _ _ _ h2, by rw [World.frozen?_setCell]; exact h3, hp.set (by simpa [blk] using hne), hs.set _ _, hB, hne, by simpa [World.setCell] using hlt, grown_set h9 _ _⟩
  rw [World.cell?_setCell_other _ _ _ _ (by simp)]
  exact h1

theorem Turning.answer {w W wr : World} {B c r g cg : Nat} {k : Int} {qs : List (Int × Int)} {x0 x1 : Value} (h : Turning B W c k qs g cg wr) (hw : Below w.heap.size w W) (hB : w.heap.size ≤ B) (hc : w.heap.size ≤ c) (hr : w.heap.size ≤ r) (hne : g ≠ r) :
    ShapeAns w k qs (.returned (.agg #[.int .i64 k, .slice (some ⟨g, 0, none⟩) qs.length cg])) ((wr.setCell ⟨r, 0, none⟩ x0).setCell ⟨r, 1, none⟩ x1) := by
  obtain ⟨h1, h2, h3, h4, h5, h6, h7, h8, h9⟩ := h
  have hne' : blk (some ⟨g, 0, none⟩) ≠ some r := by simpa [blk] using hne
  refine ⟨_, cg, rfl, (h4.set hne').set hne', (h5.set _ _).set _ _, fun x e => ?_, ?_⟩
  · obtain rfl : g = x := by simpa [blk] using e
    exact ⟨by omega, by simpa [World.setCell] using h8⟩
  · exact ((hw.grown h9 hw.size (fun j e => by simp at e; omega)).setCell hr _).setCell hr _

set_option maxHeartbeats 2000000 in
theorem specShapeTurn_no (k : Int) (a : Option Addr) (cap : Nat) (ps : List (Int × Int)) (w : World) (hp : PtsAt w a ps) (hl : ps.length ≤ 1048576) (hok : shapeOk k ps = false) :
    Calls Try.prog 31 #[.agg #[.int .i64 k, .slice a ps.length cap]] w (ShapeAns w 0 []) := by
  have HP := Lib.hid hp
  clear hp
  go_enter Try.func31, Try.ntmps31
  go_wp2_with fail
  refine (specShapeOk_any _ _ _ _ _ (HP.out.below (((Below.refl _ _).alloc (Nat.le_refl _) _).alloc (by simp) _)) hl).mono ?_
  rintro e w1 ⟨rfl, hb1⟩
  have e0 := cell_later hb1 (a := ⟨w.heap.size + 1, 0, none⟩) (v := .int .i64 0) (by simp [go_sem])
  have e1 := cell_later hb1 (a := ⟨w.heap.size + 1, 1, none⟩) (v := .slice none 0 0) (by simp [go_sem])
  have f0 : w1.frozen? ⟨w.heap.size + 1, 0, none⟩ = false := by rw [(bcell hb1).2 _ _ (by simp)]; simp [go_sem]
  have f1 : w1.frozen? ⟨w.heap.size + 1, 1, none⟩ = false := by rw [(bcell hb1).2 _ _ (by simp)]; simp [go_sem]
  have B1 : Hid (Below w.heap.size w w1) := (((Below.refl _ _).alloc (Nat.le_refl _) _).alloc (by simp) _).trans (hb1.mono (by simp; omega))
  clear hb1
  go_wp2
  refine bodyPost_ret (v := .agg #[.int .i64 0, .slice none 0 0]) (by simp [results, Try.results31, go_sem, e0, e1]) rfl ?_
  exact nothing_ans B1.out (by omega)

set_option maxHeartbeats 4000000 in
theorem specShapeTurn_yes (k : Int) (a : Option Addr) (cap : Nat) (ps : List (Int × Int)) (w : World) (hp : PtsAt w a ps) (hl : ps.length ≤ 6) (h0 : 0 < ps.length) (hcap : ps.length ≤ cap) (hok : shapeOk k ps = true) :
    Calls Try.prog 31 #[.agg #[.int .i64 k, .slice a ps.length cap]] w (ShapeAns w k (turned k ps)) := by
  have HP := Lib.hid hp
  obtain ⟨b, off, rfl, hb, _, _⟩ := hp 0 h0
  clear hp
  go_enter Try.func31, Try.ntmps31
  go_wp2_with fail
  refine (specShapeOk_any _ _ _ _ _ (HP.out.below (((Below.refl _ _).alloc (Nat.le_refl _) _).alloc (by simp) _)) (by omega)).mono ?_
  rintro e w1 ⟨rfl, hb1⟩
  have c0 := cell_later hb1 (a := ⟨w.heap.size, 0, none⟩) (v := .int .i64 k) (by simp [go_sem])
  have c1 := cell_later hb1 (a := ⟨w.heap.size, 1, none⟩) (v := .slice (some ⟨b, off, none⟩) ps.length cap) (by simp [go_sem])
  have e0 := cell_later hb1 (a := ⟨w.heap.size + 1, 0, none⟩) (v := .int .i64 0) (by simp [go_sem])
  have e1 := cell_later hb1 (a := ⟨w.heap.size + 1, 1, none⟩) (v := .slice none 0 0) (by simp [go_sem])
  have f0 : w1.frozen? ⟨w.heap.size + 1, 0, none⟩ = false := by rw [(bcell hb1).2 _ _ (by simp)]; simp [go_sem]
  have f1 : w1.frozen? ⟨w.heap.size + 1, 1, none⟩ = false := by rw [(bcell hb1).2 _ _ (by simp)]; simp [go_sem]
  have B1 : Hid (Below w.heap.size w w1) := (((Below.refl _ _).alloc (Nat.le_refl _) _).alloc (by simp) _).trans (hb1.mono (by simp; omega))
  have z1 : w.heap.size + 1 < w1.heap.size := World.block_lt_of_cell? _ _ e0
  clear hb1
  go_wp2_with fail
  refine (l1Copy_any _ _ _ _ _ _ (HP.out.below B1.out) (by omega) h0).mono ?_
  rintro e w2 ⟨g, cap2, rfl, hpt, hso, hg, hglt, hb2⟩
  replace c0 := cell_later hb2 c0
  replace c1 := cell_later hb2 c1
  replace e0 := cell_later hb2 e0
  replace e1 := cell_later hb2 e1
  replace f0 := (hb2.frozen (p := ⟨w.heap.size + 1, 0, none⟩) z1).trans f0
  replace f1 := (hb2.frozen (p := ⟨w.heap.size + 1, 1, none⟩) z1).trans f1
  have z2 := hb2.size
  have B2 : Hid (Below w.heap.size w w2) := B1.out.trans (hb2.mono B1.out.size)
  have ba : Below w2.heap.size w2 (w2.alloc (.cells #[.int .i64 k, .slice (some ⟨g, 0, none⟩) ps.length cap2] 25)) := (Below.refl _ _).alloc (Nat.le_refl _) _
  have T0 : Hid (Turning w1.heap.size (w2.alloc (.cells #[.int .i64 k, .slice (some ⟨g, 0, none⟩) ps.length cap2] 25)) w2.heap.size k (best ps 0) g cap2 (w2.alloc (.cells #[.int .i64 k, .slice (some ⟨g, 0, none⟩) ps.length cap2] 25))) :=
    ⟨by simp [go_sem], by simp [go_sem, best], by simp [go_sem], hpt.below ba, hso.below hpt ba, hg, by omega, by simp; omega, World.grownBy.refl _ _⟩
  have C0 := Lib.hid (cell_later ba c0)
  have C1 := Lib.hid (cell_later ba c1)
  have E0 := Lib.hid (cell_later ba e0)
  have E1 := Lib.hid (cell_later ba e1)
  have F0 := Lib.hid ((ba.frozen (p := ⟨w.heap.size + 1, 0, none⟩) (by show w.heap.size + 1 < _; omega)).trans f0)
  have F1 := Lib.hid ((ba.frozen (p := ⟨w.heap.size + 1, 1, none⟩) (by show w.heap.size + 1 < _; omega)).trans f1)
  have B3 := Lib.hid (B2.out.trans (ba.mono (by omega)))
  go_wp2
  generalize (w2.alloc (.cells #[.int .i64 k, .slice (some ⟨g, 0, none⟩) ps.length cap2] 25)) = W at *
  clear hpt hso hb2 c0 c1 e0 e1 f0 f1 ba hglt hg
  go_loopw [4, 5] (fun i _ wr => ∃ m g' cg : Nat, 0 < m ∧ m ≤ ps.length ∧ i = .int .i64 (m : Int) ∧ (k = 3 ∨ m = 1) ∧ Turning w1.heap.size W w2.heap.size k (best ps (m - 1)) g' cg wr) (fun i _ _ => ps.length - (intOf i).toNat)
  case atStart => exact ⟨1, g, cap2, by omega, h0, rfl, .inr rfl, T0.out⟩
  case round =>
    obtain ⟨m, g', cg, hm0, hm, rfl, hk, hT⟩ := hrel
    have HT := Lib.hid hT
    have HK := Lib.hid hk
    have hfar : ∀ {x o : Nat} {u : Value}, x ≠ w2.heap.size → W.cell? ⟨x, o, none⟩ = some u → wr.cell? ⟨x, o, none⟩ = some u := fun hne h => (HT.out.2.2.2.2.2.2.2.2.cell_far _ (World.block_lt_of_cell? _ _ h) (by simpa using hne)).trans h
    have c0 := hfar (by omega) C0.out
    have c1 := hfar (by omega) C1.out
    have e0 := hfar (by omega) E0.out
    have e1 := hfar (by omega) E1.out
    have d0 := hT.1
    have d1 := hT.2.1
    have d2 := hT.2.2.1
    have f0 : wr.frozen? ⟨w.heap.size + 1, 0, none⟩ = false := by rw [hT.2.2.2.2.2.2.2.2.frozen_far _ (World.block_lt_of_cell? _ _ E0.out) (by simp; omega)]; exact F0.out
    have f1 : wr.frozen? ⟨w.heap.size + 1, 1, none⟩ = false := by rw [hT.2.2.2.2.2.2.2.2.frozen_far _ (World.block_lt_of_cell? _ _ E1.out) (by simp; omega)]; exact F1.out
    have HPr : Hid (PtsAt wr (some ⟨b, off, none⟩) ps) := (HP.out.below B3.out).grown hT.2.2.2.2.2.2.2.2 (.inr (by simp [blk]; omega))
    clear hT hfar hk
    by_cases hgo : m < ps.length ∧ k = 3
    · obtain ⟨hlt, rfl⟩ := hgo
      clear e0 e1 f0 f1
      go_wp2_with fail
      refine (l1From_any _ _ _ m _ _ HPr.out (by omega) hcap hm0 hlt).mono ?_
      rintro e w3 ⟨g2, cg2, rfl, p2, s2, hg2, hg2lt, hb3⟩
      have HT3 := Lib.hid (HT.out.below hb3)
      replace d1 := cell_later hb3 d1
      have P2 := Lib.hid p2
      have S2 := Lib.hid s2
      have zc : w2.heap.size < wr.heap.size := World.block_lt_of_cell? _ _ d0
      have zw := hb3.size
      have zb := HT.out.2.2.2.2.2.1
      clear p2 s2 hb3 d0 d2 c0 c1
      go_wp2_with fail
      refine (l1Ahead_any _ _ _ _ _ _ _ P2.out HT3.out.2.2.2.1 (by rw [rowAt_len _ hm, best_len _ _ (by omega)]) (by rw [rowAt_len _ hm]; omega)).mono ?_
      rintro e w4 ⟨rfl, hb4⟩
      have HT4 := Lib.hid (HT3.out.below hb4)
      have P4 := Lib.hid (P2.out.below hb4)
      have S4 := Lib.hid (S2.out.below P2.out hb4)
      have zv := hb4.size
      have d1' := HT4.out.2.1
      have d2' := HT4.out.2.2.1
      clear hb4 d1
      have HST := Lib.hid (best_step ps hm0)
      by_cases hA : rowAhead (rowAt ps m) (best ps (m - 1)) = true
      · have HA := Lib.hid hA
        go_wp2
        go_roundw
        case rel =>
          refine ⟨m + 1, g2, cg2, by omega, by omega, by go_num, .inl trivial, ?_⟩
          rw [Nat.add_sub_cancel, HST.out, if_pos HA.out]
          exact HT4.out.put P4.out S4.out (by omega) (by omega) (by omega)
        case measure => simp [intOf]; omega
      · have hA' : rowAhead (rowAt ps m) (best ps (m - 1)) = false := by simpa using hA
        have HA := Lib.hid hA
        clear hA
        go_wp2
        go_roundw
        case rel =>
          refine ⟨m + 1, g', cg, by omega, by omega, by go_num, .inl trivial, ?_⟩
          rw [Nat.add_sub_cancel, HST.out, if_neg HA.out]
          exact HT4.out
        case measure => simp [intOf]; omega
    · have HX : Hid (turned k ps = best ps (m - 1)) := by
        show _ = _
        unfold turned
        rcases HK.out with h | h
        · rw [if_pos h, show m = ps.length by omega]
        · subst h
          split
          · rw [show ps.length = 1 by omega]
          · rfl
      have zb := HT.out.2.2.2.2.2.1
      by_cases hlt : m < ps.length
      · have hk3 : (k == 3) = false := by simp; omega
        clear hgo
        go_wp2
        refine bodyPost_ret (v := .agg #[.int .i64 k, .slice (some ⟨g', 0, none⟩) (best ps (m - 1)).length cg]) (by simp [results, Try.results31, go_sem, e0, e1]) rfl ?_
        rw [HX.out]
        exact HT.out.answer B3.out (by omega) (by omega) (by omega) (by omega)
      · clear hgo
        go_wp2
        refine bodyPost_ret (v := .agg #[.int .i64 k, .slice (some ⟨g', 0, none⟩) (best ps (m - 1)).length cg]) (by simp [results, Try.results31, go_sem, e0, e1]) rfl ?_
        rw [HX.out]
        exact HT.out.answer B3.out (by omega) (by omega) (by omega) (by omega)

theorem specShapeTurn_any (k : Int) (a : Option Addr) (cap : Nat) (ps : List (Int × Int)) (w : World) (hp : PtsAt w a ps) (hl : ps.length ≤ 1048576) (hcap : ps.length ≤ cap) :
    Calls Try.prog 31 #[.agg #[.int .i64 k, .slice a ps.length cap]] w (ShapeAns w (turnK k ps) (turnP k ps)) := by
  by_cases hok : shapeOk k ps = true
  · simp only [turnK, turnP, hok, if_true]
    exact specShapeTurn_yes k a cap ps w hp (shapeOk_parts hok).1 (ok_pos' hok) hcap hok
  · have hok' : shapeOk k ps = false := by simpa using hok
    simp only [turnK, turnP, hok', Bool.false_eq_true, if_false]
    exact specShapeTurn_no k a cap ps w hp hl hok'
end Go.Proofs.Ytopbpokcffdjnaa
