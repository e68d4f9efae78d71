/- Proved here: the draw of a shape is a shape in memory of its own, and turns nothing but the reader's place; codes of at most 2,000 bytes. -/
import Derived.Test.YtdfadpejddhbkaaWDrawLay
import Derived.Test.YtdfadpejddhbkaaWBox
import Derived.Deep.RegionHeld3
import Derived.Deep.DeepCutAuto
import Derived.Deep.CutBlock
namespace Go.Proofs.Ytdfadpejddhbkaa
set_option linter.unusedVariables false
open Go.ChangeShapes Go.WideShapes Go.ChangeAt Go.RowKit

theorem Rd.drew {w : World} {R : Nat} {a : Option Addr} {len cap : Nat} {p : Int} (h : Rd w R a len cap p) : Rd w.drew R a len cap p := ⟨h.code, h.place, h.soft, h.bytes, h.far, h.lo⟩
theorem Rd.drewN {w : World} {R : Nat} {a : Option Addr} {len cap : Nat} {p : Int} (h : Rd w R a len cap p) (n : Nat) : Rd (w.drewN n) R a len cap p := ⟨h.code, h.place, h.soft, h.bytes, h.far, h.lo⟩

/-- what drawing a shape leaves -/
def ShapeDrawn (w : World) (R : Nat) (a : Option Addr) (len cap : Nat) (p : Int) (e : Ending) (w' : World) : Prop :=
  ∃ (k : Int) (g c2 : Nat) (ps : List (Int × Int)) (p' : Int), e = .returned (.agg #[.int .i64 k, .slice (some ⟨g, 0, none⟩) ps.length c2]) ∧ w'.ownsRow w.heap.size 32 2 (.slice (some ⟨g, 0, none⟩) ps.length c2) ps.length (flat ps) ∧ (0 < ps.length ∧ ps.length ≤ 6) ∧ (ps.length ≤ c2 ∧ c2 ≤ maxLen) ∧ Rd w' R a len cap p' ∧ p' ≤ p + 40 ∧ w.grownBy w' (some R)

theorem kept_grown {w W wr : World} {c R : Nat} (h : w.grownBy W (some R)) (k : Kept2 c R W wr) (hc : w.heap.size ≤ c) : w.grownBy wr (some R) :=
  ⟨k.os.trans h.os, k.tape.trans h.tape, k.output.trans h.output, Nat.le_trans h.size k.size, fun i hi hne => (k.block i (Nat.lt_of_lt_of_le hi h.size) (by omega) (fun e => hne (by rw [e]))).trans (h.block i hi hne)⟩

theorem owns_base {w : World} {base base' : Nat} {e : TypeId} {size : Nat} {v : Value} {n : Nat} {xs : List Value} (h : w.ownsRow base e size v n xs) (hb : base' ≤ base) : w.ownsRow base' e size v n xs := by
  obtain ⟨h1, h2 | ⟨g, cap, cur, h3, h4, h5⟩⟩ := h
  · exact ⟨h1, .inl h2⟩
  · exact ⟨h1, .inr ⟨g, cap, cur, h3, by omega, h5⟩⟩

theorem owns_set {w : World} {base : Nat} {e : TypeId} {size : Nat} {v : Value} {n : Nat} {xs : List Value} (h : w.ownsRow base e size v n xs) {c o : Nat} {x : Value} (hne : v.ownBlock ≠ some c) : (w.setCell ⟨c, o, none⟩ x).ownsRow base e size v n xs :=
  World.ownsRow.kept h (grown_set (World.grownBy.refl w (some c)) o x) (.inr hne)

/-- a round's state -/
def Drawing (W : World) (c R : Nat) (a : Option Addr) (len cap : Nat) (p : Int) (k : Int) (j : Nat) (wr : World) : Prop :=
  ∃ (v : Value) (qs : List (Int × Int)) (p' : Int), Lay2 W c R k qs wr v ∧ Rd wr R a len cap p' ∧ p' ≤ p + 2 + 2 * (j : Int) ∧ qs.length ≤ 6

set_option maxRecDepth 100000 in
set_option maxHeartbeats 4000000 in
theorem l1Shape_any (R : Nat) (a : Option Addr) (len cap : Nat) (p : Int) (w : World) (h : Rd w R a len cap p) (hp : p ≤ 80000) (hl : len ≤ 2000) :
    Calls Try.prog 58 #[.pointer (some ⟨R, 0, none⟩)] w (ShapeDrawn w R a len cap p) := by
  have HR := Lib.hid h
  have hRlt := h.lt
  clear h
  obtain ⟨i0, hi, hz0, hz1, hz2⟩ := info_parts infoPt
  have HI := Lib.hid hi
  have HZ0 := Lib.hid hz0
  have HZ1 := Lib.hid hz1
  have HZ2 := Lib.hid hz2
  clear hi hz0 hz1 hz2
  go_enter Try.func58, Try.ntmps58
  go_wp2_with fail
  refine (num_any _ _ 5 _ _ _ _ 1 3 _ ((HR.out.alloc _).alloc _) (by omega) hl (fun i hi => ?_) (by omega) (by omega) (by omega)).mono ?_
  · have : i = 0 ∨ i = 1 ∨ i = 2 ∨ i = 3 ∨ i = 4 := by omega
    rcases this with rfl | rfl | rfl | rfl | rfl
    · exact ⟨1, by simp [go_sem], by omega, by omega⟩
    · exact ⟨2, by simp [go_sem], by omega, by omega⟩
    · exact ⟨2, by simp [go_sem], by omega, by omega⟩
    · exact ⟨3, by simp [go_sem], by omega, by omega⟩
    · exact ⟨3, by simp [go_sem], by omega, by omega⟩
  rintro e w1 ⟨k, rfl, hk0, hk1, hr, hg, hs⟩
  have t0 : w1.cell? ⟨w.heap.size, 0, none⟩ = some (.int .i64 0) := (hg.cell_far _ (by simp; try omega) (by simp; omega)).trans (by simp [go_sem])
  have t1 : w1.cell? ⟨w.heap.size, 1, none⟩ = some (.slice none 0 0) := (hg.cell_far _ (by simp; try omega) (by simp; omega)).trans (by simp [go_sem])
  have t2 : w1.frozen? ⟨w.heap.size, 0, none⟩ = false := (hg.frozen_far _ (by simp; try omega) (by simp; omega)).trans (by simp [go_sem])
  have t3 : w1.frozen? ⟨w.heap.size, 1, none⟩ = false := (hg.frozen_far _ (by simp; try omega) (by simp; omega)).trans (by simp [go_sem])
  have hs1 : w1.heap.size = w.heap.size + 1 + 1 := by simpa using hs
  have z0 : w.heap.size < w1.heap.size := by omega
  have zR : R < w1.heap.size := by omega
  have G1 : Hid (w.grownBy w1 (some R)) := ((World.grownBy_alloc w _ _).trans (World.grownBy_alloc _ _ _)).trans hg
  have ba : Below w1.heap.size w1 (w1.alloc (.cells #[.int .i64 k, .slice none 0 0] 25)) := (Below.refl _ _).alloc (Nat.le_refl _) _
  have T0 := Lib.hid (cell_later ba t0)
  have T1 := Lib.hid (cell_later ba t1)
  have T2 := Lib.hid ((ba.frozen (p := ⟨w.heap.size, 0, none⟩) z0).trans t2)
  have T3 := Lib.hid ((ba.frozen (p := ⟨w.heap.size, 1, none⟩) z0).trans t3)
  have HR1 := Lib.hid (hr.alloc (.cells #[.int .i64 k, .slice none 0 0] 25))
  have GW : Hid (w.grownBy (w1.alloc (.cells #[.int .i64 k, .slice none 0 0] 25)) (some R)) := grown_alloc G1.out _
  have hcode : Hid (∀ i, i < len → ∀ x, blk a = some x → x < w.heap.size) := fun i hi x hx => by
    obtain ⟨b, off, c, e, hlt, _⟩ := HR.out.bytes i hi
    rw [e] at hx
    obtain rfl : b = x := by simpa [blk] using hx
    exact hlt
  have L0 : Hid (Lay2 (w1.alloc (.cells #[.int .i64 k, .slice none 0 0] 25)) w1.heap.size R k [] (w1.alloc (.cells #[.int .i64 k, .slice none 0 0] 25)) (.slice none 0 0)) := by
    obtain ⟨c1, c2, c3, c4⟩ := cell_two w1 (.int .i64 k) (.slice none 0 0) 25
    exact ⟨by simpa [flat] using World.ownsRow_nil _ _ _ _, Kept2.refl _ _ _, c1, c2, c4, c3⟩
  have y0 : w1.heap.size < (w1.alloc (.cells #[.int .i64 k, .slice none 0 0] 25)).heap.size := by simp
  clear hr hg hs hs1 t0 t1 t2 t3 ba
  go_upto_region 2 with (fail)
  generalize (w1.alloc (.cells #[.int .i64 k, .slice none 0 0] 25)) = W at *
  have s0 := L0.out.kind
  go_cut [4] (fun s4 wx => ∃ want : Int, s4 = .int .i64 want ∧ 1 ≤ want ∧ want ≤ 6 ∧ Drawing W w1.heap.size R a len cap p k 0 wx)
  case first =>
    go_region_held3 (fun w' => w'.cell? ⟨w1.heap.size, 0, none⟩ = some (.int .i64 k))
      (first
        | exact s0
        | exact (hg.cell_far ⟨w1.heap.size, 0, none⟩ y0 (by simp; omega)).trans s0)
      (first
        | (go_at_call 59
           refine (pick_any R a len cap (p + 1) 4 _ ?_ (by omega) hl (by omega) (by omega)).mono ?_
           · (exact HR1.out.drew)
           rintro e wn ⟨x, rfl, hx0, hx1, hr, hg, hs⟩))
    all_goals (go_wp2_with fail; go_meet)
    all_goals exact ⟨k + x, by rw [IntWalk.i64_in _ (by omega)], by omega, by omega, _, [], p + 1 + 1, L0.out.read ⟨hg.os, hg.tape, hg.output, hg.size, hg.block⟩ (by omega) (by omega), hr, by omega, by simp⟩
  case rest =>
    obtain ⟨want0, rfl, hw1, hw2, hD⟩ := hcut
    have HD := Lib.hid hD
    have s1 : wc.cell? ⟨w1.heap.size, 0, none⟩ = some (.int .i64 k) := by obtain ⟨v, qs, p', hL, _⟩ := hD; exact hL.kind
    clear hD L0 s0
    go_upto_if 19 with (fail)
    go_cut [4] (fun s4 wx => ∃ want : Int, s4 = .int .i64 want ∧ 1 ≤ want ∧ want ≤ 6 ∧ Drawing W w1.heap.size R a len cap p k 0 wx)
    case first =>
      go_wp2
      all_goals go_meet
      · exact ⟨1, rfl, by omega, by omega, HD.out⟩
      · exact ⟨want0, rfl, hw1, hw2, HD.out⟩
    case rest =>
      clear HD hw1 hw2 s1
      obtain ⟨want, rfl, hw1, hw2, hD⟩ := hcut
      have HD := Lib.hid hD
      clear hD
      go_upto_block 0 with (fail)
      go_cut [5] (fun _ wx => Drawing W w1.heap.size R a len cap p k 12 wx)
      case first =>
        go_wp2
        go_loopw [5, 6, 7] (fun i _ _ wr => ∃ j : Nat, j ≤ 12 ∧ i = .int .i64 j ∧ Drawing W w1.heap.size R a len cap p k j wr) (fun i _ _ _ => 12 - (intOf i).toNat)
        case atStart => exact ⟨0, by omega, rfl, HD.out⟩
        case round =>
          clear HD
          obtain ⟨j, hj, rfl, v, qs, p', hL, hr, hp', hq⟩ := hrel
          obtain ⟨a2, cap2, rfl, hpt, hso, hnew⟩ := owned_pts hL.own rfl
          have d0 := hL.kind
          have d1 := hL.pts
          have HL := Lib.hid hL
          have HR2 := Lib.hid hr
          have HPT := Lib.hid hpt
          have HNEW := Lib.hid hnew
          have HP' := Lib.hid hp'
          clear hL hr hpt hso hnew hp'
          by_cases hj12 : j < 12
          · have b1 : decide ((j : Int) < 12) = true := by simp; omega
            by_cases hmin : (qs.length : Int) < min want 6
            · have b2 : decide ((qs.length : Int) < min want 6) = true := by simpa using hmin
              go_wp2
              go_quiet ((go_at_call 70; exact Calls.quiet_of_same (l1Min_any _ _ _)))
              go_wp2_with fail
              refine (l1Pt_any _ _ _ _ _ _ (HR2.out.drewN _) (by have := HP'.out; omega) hl).mono ?_
              rintro e w2 ⟨x, y, rfl, ⟨hx0, hx1⟩, ⟨hy0, hy1⟩, hr3, hg3⟩
              have hL2 := (HL.out.drewN nq).read hg3 (by omega) (by omega)
              have hL3 := hL2.alloc (.cells #[.int .i64 x, .int .i64 y] 32) (by omega) (by omega)
              have HL3 := Lib.hid hL3
              have HR3 := Lib.hid (hr3.alloc (.cells #[.int .i64 x, .int .i64 y] 32))
              have e0 := hL3.kind
              have e1 := hL3.pts
              have e2 := hL3.soft
              have u0 : (w2.alloc (.cells #[.int .i64 x, .int .i64 y] 32)).cell? ⟨w2.heap.size, 0, none⟩ = some (.int .i64 x) := by simp [go_sem]
              have u1 : (w2.alloc (.cells #[.int .i64 x, .int .i64 y] 32)).cell? ⟨w2.heap.size, 1, none⟩ = some (.int .i64 y) := by simp [go_sem]
              have HPT3 : Hid (PtsAt (w2.alloc (.cells #[.int .i64 x, .int .i64 y] 32)) a2 qs) := by
                obtain ⟨a3, cap3, e3, h3, _, _⟩ := owned_pts hL3.own rfl
                obtain ⟨rfl, rfl⟩ : a2 = a3 ∧ cap2 = cap3 := by simpa using e3
                exact h3
              have HCODE : Hid (∀ i, i < len → ∀ x, blk a = some x → x < W.heap.size ∧ x ≠ w1.heap.size) := fun i hi x hx => by have := hcode.out i hi x hx; omega
              have hsz3 : W.heap.size ≤ (w2.alloc (.cells #[.int .i64 x, .int .i64 y] 32)).heap.size := hL3.kept.size
              clear hL2 hL3 hr3 hg3 d0 d1
              go_upto_region 10 with (fail)
              generalize (w2.alloc (.cells #[.int .i64 x, .int .i64 y] 32)) = W3 at *
              have hneq := run_ptNeq
              have hq5 : qs.length ≤ 5 := by have := Int.le_trans (Int.le_of_lt hmin) (Int.min_le_right want 6); omega
              clear hmin b1 b2
              by_cases hn : qs.length = 0
              · have g1 : ((qs.length : Int) == 0) = true := by simp [hn]
                clear hn
                go_wp2
                go_quiet (fail)
                have HL4 := Lib.hid (HL3.out.drewN nq)
                have HR4 := Lib.hid (HR3.out.drewN nq)
                have v1 : (W3.drewN nq).cell? ⟨w1.heap.size, 1, none⟩ = _ := e1
                have v2 : (W3.drewN nq).frozen? ⟨w1.heap.size, 1, none⟩ = _ := e2
                have v3 : (W3.drewN nq).cell? ⟨w2.heap.size, 0, none⟩ = _ := u0
                have v4 : (W3.drewN nq).cell? ⟨w2.heap.size, 1, none⟩ = _ := u1
                have v5 : W.heap.size ≤ (W3.drewN nq).heap.size := hsz3
                generalize W3.drewN nq = W4 at *
                have v6 : w2.heap.size < W4.heap.size := World.block_lt_of_cell? _ _ v3
                have v7 : w1.heap.size < W4.heap.size := World.block_lt_of_cell? _ _ v1
                clear e0 e1 e2 u0 u1 HL3 HR3
                go_wp2_with (at_builtin; refine wpList_append_lies _ (by rfl) _ _ _ (by rfl) W.heap.size 32 i0 _ 2 16 Try.underlying23 HI.out HZ0.out HZ1.out HZ2.out rfl (by omega) _ qs.length (flat qs) (by rfl) (HL4.out.own.alloc _) ⟨W4.heap.size, 0, none⟩ 1 1 [.int .i64 x, .int .i64 y] (by rfl) (by rfl) (World.news_of_block (cs := #[.int .i64 x, .int .i64 y]) (t := 32) (fr := (0, 0)) (heap_alloc_new W4 _)) (by simp [Value.oneCell']) (by omega) (by unfold maxLen; omega) (by omega) (by simp; omega) (W4.heap.size + 1) (by simp) ?_; intro gg cap' wa hown1 hgrow hat hlt'; obtain ⟨x1, x2, x3, x4⟩ := HL4.out.after y0 ((Below.refl W4.heap.size W4).alloc (Nat.le_refl _) _) hgrow; have HST2 := Lib.hid (HL4.out.step (p := (x, y)) y0 hown1 ((Below.refl W4.heap.size W4).alloc (Nat.le_refl _) _) hgrow); have HRR := Lib.hid (Rd.appended (v' := .slice (some ⟨gg, 0, none⟩) (qs.length + 1) cap') HL4.out HR4.out (by omega) (by omega) HCODE.out ((Below.refl W4.heap.size W4).alloc (Nat.le_refl _) _) hgrow); clear hown1 hgrow hat)
                go_roundw
                case rel => exact ⟨j + 1, by omega, by go_num, _, _, _, HST2.out, HRR.out, by have := HP'.out; omega, by simp; omega⟩
                case measure => simp [intOf]; omega
              · have g1 : ((qs.length : Int) == 0) = false := beq_eq_false_iff_ne.2 (by omega)
                obtain ⟨m, hm⟩ : ∃ m, qs.length = m + 1 := ⟨qs.length - 1, by omega⟩
                obtain ⟨b, off, rfl, _, r1, r2⟩ := HPT3.out m (by omega)
                obtain ⟨b', off', he, _, r3, r4⟩ := HPT3.out 0 (by omega)
                obtain ⟨rfl, rfl⟩ : b = b' ∧ off = off' := by simpa using he
                clear he
                simp only [Nat.zero_mul, Nat.add_zero] at r3 r4
                have g2 : IntKind.i64.wrap ((qs.length : Int) - 1) = (m : Int) := by rw [IntWalk.i64_in _ (by omega)]; omega
                have g3 : (m : Int) < (qs.length : Int) := by omega
                have g4 : 0 < qs.length := by omega
                have g5 : ¬ qs = [] := by rintro rfl; simp at g4
                clear hm hn
                cases hle : ptEq (px qs m, py qs m) (x, y)
                · cases hk3 : (k != 3)
                  · cases hfe : ptEq (px qs 0, py qs 0) (x, y)
                    · skip
                      go_wp2
                      go_quiet (fail)
                      have HL4 := Lib.hid (HL3.out.drewN nq)
                      have HR4 := Lib.hid (HR3.out.drewN nq)
                      have v1 : (W3.drewN nq).cell? ⟨w1.heap.size, 1, none⟩ = _ := e1
                      have v2 : (W3.drewN nq).frozen? ⟨w1.heap.size, 1, none⟩ = _ := e2
                      have v3 : (W3.drewN nq).cell? ⟨w2.heap.size, 0, none⟩ = _ := u0
                      have v4 : (W3.drewN nq).cell? ⟨w2.heap.size, 1, none⟩ = _ := u1
                      have v5 : W.heap.size ≤ (W3.drewN nq).heap.size := hsz3
                      generalize W3.drewN nq = W4 at *
                      have v6 : w2.heap.size < W4.heap.size := World.block_lt_of_cell? _ _ v3
                      have v7 : w1.heap.size < W4.heap.size := World.block_lt_of_cell? _ _ v1
                      clear e0 e1 e2 u0 u1 HL3 HR3
                      go_wp2_with (at_builtin; refine wpList_append_lies _ (by rfl) _ _ _ (by rfl) W.heap.size 32 i0 _ 2 16 Try.underlying23 HI.out HZ0.out HZ1.out HZ2.out rfl (by omega) _ qs.length (flat qs) (by rfl) (HL4.out.own.alloc _) ⟨W4.heap.size, 0, none⟩ 1 1 [.int .i64 x, .int .i64 y] (by rfl) (by rfl) (World.news_of_block (cs := #[.int .i64 x, .int .i64 y]) (t := 32) (fr := (0, 0)) (heap_alloc_new W4 _)) (by simp [Value.oneCell']) (by omega) (by unfold maxLen; omega) (by omega) (by simp; omega) (W4.heap.size + 1) (by simp) ?_; intro gg cap' wa hown1 hgrow hat hlt'; obtain ⟨x1, x2, x3, x4⟩ := HL4.out.after y0 ((Below.refl W4.heap.size W4).alloc (Nat.le_refl _) _) hgrow; have HST2 := Lib.hid (HL4.out.step (p := (x, y)) y0 hown1 ((Below.refl W4.heap.size W4).alloc (Nat.le_refl _) _) hgrow); have HRR := Lib.hid (Rd.appended (v' := .slice (some ⟨gg, 0, none⟩) (qs.length + 1) cap') HL4.out HR4.out (by omega) (by omega) HCODE.out ((Below.refl W4.heap.size W4).alloc (Nat.le_refl _) _) hgrow); clear hown1 hgrow hat)
                      go_roundw
                      case rel => exact ⟨j + 1, by omega, by go_num, _, _, _, HST2.out, HRR.out, by have := HP'.out; omega, by simp; omega⟩
                      case measure => simp [intOf]; omega
                    · skip
                      go_wp2
                      go_quiet (fail)
                      go_wp2
                      go_roundw
                      case rel => exact ⟨j + 1, by omega, by go_num, _, _, _, HL3.out.drewN _, HR3.out.drewN _, by have := HP'.out; omega, hq⟩
                      case measure => simp [intOf]; omega
                  · skip
                    go_wp2
                    go_quiet (fail)
                    have HL4 := Lib.hid (HL3.out.drewN nq)
                    have HR4 := Lib.hid (HR3.out.drewN nq)
                    have v1 : (W3.drewN nq).cell? ⟨w1.heap.size, 1, none⟩ = _ := e1
                    have v2 : (W3.drewN nq).frozen? ⟨w1.heap.size, 1, none⟩ = _ := e2
                    have v3 : (W3.drewN nq).cell? ⟨w2.heap.size, 0, none⟩ = _ := u0
                    have v4 : (W3.drewN nq).cell? ⟨w2.heap.size, 1, none⟩ = _ := u1
                    have v5 : W.heap.size ≤ (W3.drewN nq).heap.size := hsz3
                    generalize W3.drewN nq = W4 at *
                    have v6 : w2.heap.size < W4.heap.size := World.block_lt_of_cell? _ _ v3
                    have v7 : w1.heap.size < W4.heap.size := World.block_lt_of_cell? _ _ v1
                    clear e0 e1 e2 u0 u1 HL3 HR3
                    go_wp2_with (at_builtin; refine wpList_append_lies _ (by rfl) _ _ _ (by rfl) W.heap.size 32 i0 _ 2 16 Try.underlying23 HI.out HZ0.out HZ1.out HZ2.out rfl (by omega) _ qs.length (flat qs) (by rfl) (HL4.out.own.alloc _) ⟨W4.heap.size, 0, none⟩ 1 1 [.int .i64 x, .int .i64 y] (by rfl) (by rfl) (World.news_of_block (cs := #[.int .i64 x, .int .i64 y]) (t := 32) (fr := (0, 0)) (heap_alloc_new W4 _)) (by simp [Value.oneCell']) (by omega) (by unfold maxLen; omega) (by omega) (by simp; omega) (W4.heap.size + 1) (by simp) ?_; intro gg cap' wa hown1 hgrow hat hlt'; obtain ⟨x1, x2, x3, x4⟩ := HL4.out.after y0 ((Below.refl W4.heap.size W4).alloc (Nat.le_refl _) _) hgrow; have HST2 := Lib.hid (HL4.out.step (p := (x, y)) y0 hown1 ((Below.refl W4.heap.size W4).alloc (Nat.le_refl _) _) hgrow); have HRR := Lib.hid (Rd.appended (v' := .slice (some ⟨gg, 0, none⟩) (qs.length + 1) cap') HL4.out HR4.out (by omega) (by omega) HCODE.out ((Below.refl W4.heap.size W4).alloc (Nat.le_refl _) _) hgrow); clear hown1 hgrow hat)
                    go_roundw
                    case rel => exact ⟨j + 1, by omega, by go_num, _, _, _, HST2.out, HRR.out, by have := HP'.out; omega, by simp; omega⟩
                    case measure => simp [intOf]; omega
                · skip
                  go_wp2
                  go_quiet (fail)
                  go_wp2
                  go_roundw
                  case rel => exact ⟨j + 1, by omega, by go_num, _, _, _, HL3.out.drewN _, HR3.out.drewN _, by have := HP'.out; omega, hq⟩
                  case measure => simp [intOf]; omega
            · have b2 : decide ((qs.length : Int) < min want 6) = false := by simpa using hmin
              go_wp2
              go_quiet ((go_at_call 70; exact Calls.quiet_of_same (l1Min_any _ _ _)))
              go_wp2
              go_meet
              exact ⟨_, _, _, HL.out.drewN _, HR2.out.drewN _, by have := HP'.out; omega, hq⟩
          · have b1 : decide ((j : Int) < 12) = false := by simp; omega
            go_wp2
            go_quiet ((go_at_call 70; exact Calls.quiet_of_same (l1Min_any _ _ _)))
            go_wp2
            go_meet
            exact ⟨_, _, _, HL.out.drewN _, HR2.out.drewN _, by have := HP'.out; omega, hq⟩
      case rest =>
        clear HD
        obtain ⟨v, qs, p', hL, hr, hp', hq⟩ := hcut
        have hneR : w.heap.size ≠ R := by omega
        have t0 := hL.kept.cell T0.out (by omega) hneR
        have t1 := hL.kept.cell T1.out (by omega) hneR
        have t2 : wc.frozen? ⟨w.heap.size, 0, none⟩ = false := (hL.kept.frozen (b := w.heap.size) (o := 0) (World.block_lt_of_cell? _ _ T0.out) (by omega) hneR).trans T2.out
        have t3 : wc.frozen? ⟨w.heap.size, 1, none⟩ = false := (hL.kept.frozen (b := w.heap.size) (o := 1) (World.block_lt_of_cell? _ _ T0.out) (by omega) hneR).trans T3.out
        have G3 : Hid (w.grownBy wc (some R)) := kept_grown GW.out hL.kept (by omega)
        have HCAP : Hid (0 < qs.length → ∃ g cap2, v = .slice (some ⟨g, 0, none⟩) qs.length cap2 ∧ qs.length ≤ cap2 ∧ cap2 ≤ maxLen) := by
          intro h
          obtain ⟨_, ⟨_, h'⟩ | ⟨g, c3, cur, e, _, _, h1, h2, _⟩⟩ := hL.own
          · omega
          · exact ⟨g, c3, e, h1, h2⟩
        obtain ⟨a2, cap2, rfl, hpt, hso, hnew⟩ := owned_pts hL.own rfl
        have d0 := hL.kind
        have d1 := hL.pts
        have z5 : w.heap.size < wc.heap.size := World.block_lt_of_cell? _ _ t0
        have zc : w1.heap.size < wc.heap.size := World.block_lt_of_cell? _ _ d0
        have HR3 := Lib.hid hr
        have HPT := Lib.hid hpt
        have HOWN := Lib.hid hL.own
        have HNEW := Lib.hid hnew
        have hWw := GW.out.size
        clear hL hr hpt hso hnew
        go_wp2_with fail
        refine (specShapeOk_any _ _ _ _ _ HPT.out (by omega)).mono ?_
        rintro e w5 ⟨rfl, hb5⟩
        replace d0 := cell_later hb5 d0
        replace d1 := cell_later hb5 d1
        replace t0 := cell_later hb5 t0
        replace t1 := cell_later hb5 t1
        replace t2 := (hb5.frozen (p := ⟨w.heap.size, 0, none⟩) z5).trans t2
        replace t3 := (hb5.frozen (p := ⟨w.heap.size, 1, none⟩) z5).trans t3
        have z6 := hb5.size
        have G5 : Hid (w.grownBy w5 (some R)) := G3.out.trans (below_grown hb5)
        have HR5 : Hid (Rd w5 R a len cap p') := HR3.out.kept (r := none) (below_grown hb5) (by simp) (fun i hi => by obtain ⟨b, off, c, e, _⟩ := HR3.out.bytes i hi; rw [e]; simp [blk])
        have HOWN5 := Lib.hid (World.ownsRow.kept HOWN.out (below_grown (r := none) hb5) (by
          by_cases h : (Value.slice a2 qs.length cap2).ownBlock = none
          · exact .inl h
          · exact .inr h))
        clear hb5
        by_cases hok : shapeOk k qs = true
        · have hpos := ok_pos hok
          obtain ⟨g, c3, e3, hc1, hc2⟩ := HCAP.out hpos
          obtain ⟨rfl, rfl⟩ : a2 = some ⟨g, 0, none⟩ ∧ cap2 = c3 := by simpa using e3
          have hg := HNEW.out g rfl
          have HC1 := Lib.hid hc1
          have HC2 := Lib.hid hc2
          have HG := Lib.hid hg
          clear e3 hc1 hc2 hg
          go_wp2
          refine bodyPost_ret (v := .agg #[.int .i64 k, .slice (some ⟨g, 0, none⟩) qs.length cap2]) (by simp [results, Try.results58, go_sem, t0, t1]) rfl ?_
          have hge := HG.out
          have hne : (Value.slice (some ⟨g, 0, none⟩) qs.length cap2).ownBlock ≠ some w.heap.size := by simp [Value.ownBlock]; omega
          refine ⟨k, g, cap2, qs, p', rfl, owns_set (owns_set (owns_base HOWN5.out (by omega)) hne) hne, ⟨hpos, hq⟩, ⟨HC1.out, HC2.out⟩, ?_, by omega, grown_set_new (grown_set_new G5.out (Nat.le_refl _)) (Nat.le_refl _)⟩
          exact HR5.out.kept (r := some w.heap.size) (grown_set (grown_set (World.grownBy.refl _ _) _ _) _ _) (by simpa using hneR) (fun i hi e => by have := hcode.out i hi _ e; omega)
        · have hok' : shapeOk k qs = false := by simpa using hok
          clear hok
          go_wp2_with fail
          refine (l1Pt_any _ _ _ _ _ _ HR5.out (by omega) hl).mono ?_
          rintro e w6 ⟨x, y, rfl, _, _, hr6, hg6⟩
          have z7 : w.heap.size < w5.heap.size := World.block_lt_of_cell? _ _ t0
          have hneR' : some w.heap.size ≠ some R := by simpa using hneR
          replace t0 := (hg6.cell_far ⟨w.heap.size, 0, none⟩ z7 hneR').trans t0
          replace t1 := (hg6.cell_far ⟨w.heap.size, 1, none⟩ z7 hneR').trans t1
          replace t2 := (hg6.frozen_far ⟨w.heap.size, 0, none⟩ z7 hneR').trans t2
          replace t3 := (hg6.frozen_far ⟨w.heap.size, 1, none⟩ z7 hneR').trans t3
          have z8 : w.heap.size < w6.heap.size := World.block_lt_of_cell? _ _ t0
          have HR6 := Lib.hid hr6
          have G6 : Hid (w.grownBy w6 (some R)) := G5.out.trans hg6
          have n9 : ¬ w.heap.size = w6.heap.size := by omega
          clear hr6 hg6 d0 d1
          go_wp2
          have hsz : ((w6.setCell ⟨w.heap.size, 0, none⟩ (.int .i64 1)).setCell ⟨w.heap.size, 1, none⟩ (.slice (some ⟨w6.heap.size, 0, none⟩) 1 1)).heap.size = w6.heap.size := by simp [World.setCell]
          have q0 : (((w6.setCell ⟨w.heap.size, 0, none⟩ (.int .i64 1)).setCell ⟨w.heap.size, 1, none⟩ (.slice (some ⟨w6.heap.size, 0, none⟩) 1 1)).alloc (.cells #[.int .i64 x, .int .i64 y] 32)).cell? ⟨w.heap.size, 0, none⟩ = some (.int .i64 1) := by
            rw [World.cell?_of_block (w := ((w6.setCell ⟨w.heap.size, 0, none⟩ (.int .i64 1)).setCell ⟨w.heap.size, 1, none⟩ (.slice (some ⟨w6.heap.size, 0, none⟩) 1 1))) (Below.heap_alloc _ _ _ (by rw [hsz]; exact z8)), World.cell?_setCell_other _ _ _ _ (by simp)]
            exact World.cell?_setCell_same _ _ _ t0
          have q1 : (((w6.setCell ⟨w.heap.size, 0, none⟩ (.int .i64 1)).setCell ⟨w.heap.size, 1, none⟩ (.slice (some ⟨w6.heap.size, 0, none⟩) 1 1)).alloc (.cells #[.int .i64 x, .int .i64 y] 32)).cell? ⟨w.heap.size, 1, none⟩ = some (.slice (some ⟨w6.heap.size, 0, none⟩) 1 1) := by
            rw [World.cell?_of_block (w := ((w6.setCell ⟨w.heap.size, 0, none⟩ (.int .i64 1)).setCell ⟨w.heap.size, 1, none⟩ (.slice (some ⟨w6.heap.size, 0, none⟩) 1 1))) (Below.heap_alloc _ _ _ (by rw [hsz]; exact z8))]
            exact World.cell?_setCell_same _ _ _ ((World.cell?_setCell_other _ _ _ _ (by simp)).trans t1)
          refine bodyPost_ret (v := .agg #[.int .i64 1, .slice (some ⟨w6.heap.size, 0, none⟩) 1 1]) (by simp [results, Try.results58, go_sem, q0, q1]) rfl ?_
          have hk := HR6.out.kept (r := some w.heap.size) (grown_set (grown_set (World.grownBy.refl w6 (some w.heap.size)) 0 (.int .i64 1)) 1 (.slice (some ⟨w6.heap.size, 0, none⟩) 1 1)) (by simpa using hneR) (fun i hi e => by have := hcode.out i hi _ e; omega)
          refine ⟨1, w6.heap.size, 1, [(x, y)], p' + 2, rfl, ?_, ⟨by simp, by simp⟩, ⟨by simp, by unfold maxLen; omega⟩, hk.alloc _, by omega, grown_alloc (grown_set_new (grown_set_new G6.out (Nat.le_refl _)) (Nat.le_refl _)) _⟩
          refine ⟨rfl, .inr ⟨w6.heap.size, 1, #[.int .i64 x, .int .i64 y], rfl, by omega, ?_, Nat.le_refl _, by unfold maxLen; omega, rfl, rfl⟩⟩
          have := heap_alloc_new ((w6.setCell ⟨w.heap.size, 0, none⟩ (.int .i64 1)).setCell ⟨w.heap.size, 1, none⟩ (.slice (some ⟨w6.heap.size, 0, none⟩) 1 1)) (.cells #[.int .i64 x, .int .i64 y] 32)
          rw [hsz] at this
          exact this
end Go.Proofs.Ytdfadpejddhbkaa
