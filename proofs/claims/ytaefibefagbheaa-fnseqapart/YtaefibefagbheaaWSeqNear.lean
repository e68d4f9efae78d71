/- Proved here: the draw of a row that is near another one is a row in memory of its own, no point far off, and turns nothing but the reader's place; codes of at most 2,000 bytes. -/
import Derived.Test.YtaefibefagbheaaWSeqDraw
namespace Go.Proofs.Ytaefibefagbheaa
set_option linter.unusedVariables false
open Go.ChangeShapes Go.WideShapes Go.ChangeAt Go.RowKit

/-- the first point is written -/
theorem PtsAt.put0 {w : World} {g : Nat} {u : Int × Int} {r : List (Int × Int)} (h : PtsAt w (some ⟨g, 0, none⟩) (u :: r)) (x y : Int) :
    PtsAt ((w.setCell ⟨g, 0, none⟩ (.int .i64 x)).setCell ⟨g, 1, none⟩ (.int .i64 y)) (some ⟨g, 0, none⟩) ((x, y) :: r) := by
  intro i hi
  obtain ⟨b, off, e, hlt, h1, h2⟩ := h i (by simpa using hi)
  obtain ⟨rfl, rfl⟩ : g = b ∧ 0 = off := by simpa using e
  have far : ∀ (v : World) (o o' : Nat) (z : Value), o ≠ o' → (v.setCell ⟨g, o, none⟩ z).cell? ⟨g, o', none⟩ = v.cell? ⟨g, o', none⟩ := fun v o o' z hne => World.cell?_setCell_other v ⟨g, o, none⟩ ⟨g, o', none⟩ z (fun h => hne (congrArg Addr.off h))
  refine ⟨g, 0, rfl, by simpa [World.setCell] using hlt, ?_, ?_⟩
  · cases i with
    | zero =>
      simp only [Nat.zero_mul, Nat.add_zero] at h1 ⊢
      rw [far _ _ _ _ (by omega)]
      exact World.cell?_setCell_same _ _ _ h1
    | succ n =>
      rw [far _ _ _ _ (by omega), far _ _ _ _ (by omega)]
      exact h1
  · cases i with
    | zero =>
      simp only [Nat.zero_mul, Nat.add_zero, Nat.zero_add] at h2 ⊢
      exact World.cell?_setCell_same _ _ _ ((far _ _ _ _ (by omega)).trans h2)
    | succ n =>
      rw [far _ _ _ _ (by omega), far _ _ _ _ (by omega)]
      exact h2

theorem PtsAt.put0' {w : World} {g : Nat} {ps : List (Int × Int)} (h : PtsAt w (some ⟨g, 0, none⟩) ps) (h0 : 0 < ps.length) (x y : Int) :
    PtsAt ((w.setCell ⟨g, 0, none⟩ (.int .i64 x)).setCell ⟨g, 1, none⟩ (.int .i64 y)) (some ⟨g, 0, none⟩) ((x, y) :: ps.tail) := by
  cases ps with
  | nil => simp at h0
  | cons u r => exact h.put0 x y

theorem LayR.some {W wr : World} {R : Nat} {qs : List (Int × Int)} {a : Option Addr} {c : Nat} (h : LayR W R qs wr (.slice a qs.length c)) (h0 : 0 < qs.length) : ∃ g, a = some ⟨g, 0, none⟩ := by
  obtain ⟨_, ⟨e, h2⟩ | ⟨g, cap, cur, e, _⟩⟩ := h.own
  · omega
  · cases e
    exact ⟨g, rfl⟩

theorem own_blk {a : Option Addr} {n c : Nat} : (Value.slice a n c).ownBlock = blk a := by cases a <;> rfl

/-- two rows lie apart -/
def Apart (v u : Value) : Prop := ∀ x, v.ownBlock = some x → u.ownBlock ≠ some x

set_option maxRecDepth 100000 in
set_option maxHeartbeats 4000000 in
theorem l5Near_any (R : Nat) (a : Option Addr) (len cap : Nat) (p : Int) (sa : Option Addr) (sc : Nat) (ss : List (Int × Int)) (w : World) (h : Rd w R a len cap p) (hp : p ≤ 80000) (hl : len ≤ 2000) (hs : PtsAt w sa ss) (hsl : ss.length ≤ 20) (hn : Near ss) :
    Calls Try.prog 41 #[.pointer (some ⟨R, 0, none⟩), .slice sa ss.length sc] w (RowDrawn w R a len cap p (ss.length + 2) 9) := by
  have HR := Lib.hid h
  have hRlt := h.lt
  have HC : Hid (CodeLt a len w.heap.size) := h.codeBelow
  have HS := Lib.hid hs
  have HNS := Lib.hid hn
  clear h hs hn
  go_enter Try.func41, Try.ntmps41
  go_wp2_with (at_builtin; refine wpList_layr (by rfl) _ _ (by rfl) (LayR.lit (World.grownBy.refl w (some R)) hRlt) (HS.out.below ((Below.refl _ _).alloc (Nat.le_refl _) _)) (by rfl) (by rfl) rfl (by simp; omega) ?_; intro r av cv W1 hr1 hL1 hG1 hA1)
  have HR1 : Hid (Rd W1 R a len cap p) := (HR.out.alloc _).past hG1.out hRlt HC.out fun k e => by
    have : w.heap.size = k := by simpa [Value.ownBlock] using e
    omega
  obtain rfl : r = ss := by rw [hr1.out]; rfl
  clear hr1 hG1 hA1 HR HS
  go_wp2_with fail
  refine (pick_any _ _ _ _ _ _ _ HR1.out (by omega) hl (by omega) (by omega)).mono ?_
  rintro e w2 ⟨x, rfl, hx0, hx1, hr, hg, hs⟩
  have L0 := Lib.hid (hL1.out.read hg)
  have R0 := Lib.hid hr
  clear hr hg hs hL1 HR1
  go_wp2
  go_loopw [5, 6] (fun v i wr => ∃ (j : Nat) (qs : List (Int × Int)) (p' : Int), j ≤ 2 ∧ qs.length ≤ r.length + 2 - j ∧ i = .int .i64 j ∧ LayR w R qs wr v ∧ Near qs ∧ Rd wr R a len cap p' ∧ p' ≤ p + 9 - 4 * (j : Int)) (fun _ i _ => (intOf i).toNat)
  case atStart => exact ⟨(1 + x).toNat, r, p + 1, by omega, by omega, by go_num, L0.out, HNS.out, R0.out, by omega⟩
  case round =>
    obtain ⟨j, qs, p', hj, hq, rfl, hL, hN, hr, hp'⟩ := hrel
    have HR1 := Lib.hid hr
    have HN := Lib.hid hN
    obtain ⟨av, cv, rfl, hcv, hcm, hcz⟩ := hL.form
    have HL := Lib.hid hL
    clear hL hr hN
    by_cases h0 : 0 < j
    · have hqs : qs.length ≤ 22 := by omega
      have e1 : IntKind.i64.wrap ((qs.length : Int) + 1) = (qs.length : Int) + 1 := IntWalk.i64_in _ (by omega)
      go_wp2_with fail
      refine (pick_any _ _ _ _ _ _ _ HR1.out (by omega) hl (by omega) (by omega)).mono ?_
      rintro e w3 ⟨k, rfl, hk0, hk1, hr, hg, hs⟩
      obtain ⟨K, rfl⟩ : ∃ K : Nat, k = (K : Int) := ⟨k.toNat, by omega⟩
      have hK : K ≤ qs.length := by omega
      have HL3 := Lib.hid (HL.out.read hg)
      have HR3 := Lib.hid hr
      clear hr hg hs HL HR1 e1 hk0 hk1
      go_wp2_with fail
      refine (pick_any _ _ _ _ _ _ _ HR3.out (by omega) hl (by omega) (by omega)).mono ?_
      rintro e w4 ⟨x', rfl, hx0', hx1', hr, hg, hs⟩
      have HL4 := Lib.hid (HL3.out.read hg)
      have HR4 := Lib.hid hr
      clear hr hg hs HL3 HR3
      have e2 : IntKind.i64.wrap (5 + x') = 5 + x' := IntWalk.i64_in _ (by omega)
      go_wp2_with fail
      refine (pick_any _ _ _ _ _ _ _ HR4.out (by omega) hl (by omega) (by omega)).mono ?_
      rintro e w5 ⟨y', rfl, hy0', hy1', hr, hg, hs⟩
      have HL5 := Lib.hid (HL4.out.read hg)
      have HR5 := Lib.hid hr
      clear hr hg hs HL4 HR4
      go_upto_region 7 with (fail)
      obtain ⟨c0, c1, c2, c3⟩ := cell_duo w5 (.int .i64 (5 + x')) (.int .i64 y') 32
      have HL6 := Lib.hid (HL5.out.alloc (.cells #[.int .i64 (5 + x'), .int .i64 y'] 32))
      have HR6 := Lib.hid (HR5.out.alloc (.cells #[.int .i64 (5 + x'), .int .i64 y'] 32))
      have z5 : w5.heap.size < (w5.alloc (.cells #[.int .i64 (5 + x'), .int .i64 y'] 32)).heap.size := by simp
      have zw : w.heap.size ≤ w5.heap.size := HL5.out.grown.size
      have hX50 : 5 + x' ≤ 50 := by omega
      generalize w5.alloc (.cells #[.int .i64 (5 + x'), .int .i64 y'] 32) = W6 at *
      generalize w5.heap.size = B at *
      clear HL5 HR5 e2 hx0' hx1' hy0' hy1'
      generalize 5 + x' = X at *
      have s1 := fun u => run_cutLo u av qs.length cv K (K : Int) rfl hK
      have HLT := Lib.hid (fun k e => (HL6.out.far e).2 : ∀ k, (Value.slice av qs.length cv).ownBlock = some k → k < W6.heap.size)
      have hRB : R ≠ B := by omega
      go_wp2_with (at_builtin; refine wpList_layr (by rfl) _ _ (by rfl) (LayR.lit HL6.out.grown hRlt) ((HL6.out.pts.1.cutLo hcv K).below ((Below.refl _ _).alloc (Nat.le_refl _) _)) (by rfl) (by rfl) (by rw [List.length_drop]) (by simp; omega) ?_; intro r2 tv tc W7 hr2 hL7 hG7 hA7)
      have hlit : ∀ k, (Value.slice (some ⟨W6.heap.size, 0, none⟩) 0 0).ownBlock = some k → k = W6.heap.size := fun k e => by
        have : W6.heap.size = k := by simpa [Value.ownBlock] using e
        exact this.symm
      have HE2 : Hid (r2 = qs.drop K) := by show _ = _; rw [hr2.out]; rfl
      have h2l : Hid (r2.length = qs.length - K) := by show _ = _; rw [HE2.out, List.length_drop]
      have HT7 := hL7
      have HO7 : Hid (LayR w R qs W7 (.slice av qs.length cv)) := (HL6.out.alloc _).kept hG7.out (fun k e => .inl (by have := hlit k e; omega)) fun k e e' => by have := hlit k e; have := HLT.out k e'; omega
      have HP7 : Hid (Rd W7 R a len cap (p' + 1 + 1 + 1)) := (HR6.out.alloc _).past hG7.out hRlt HC.out fun k e => by have := hlit k e; omega
      have HAP : Hid (Apart (.slice tv r2.length tc) (.slice av qs.length cv)) := fun k e e' => by
        have h1 := HLT.out k e'
        rcases hA7.out k e with h2 | h2
        · have := hlit k h2; omega
        · simp at h2; omega
      have keep7 : ∀ {x o : Nat} {u : Value}, x < W6.heap.size → W6.cell? ⟨x, o, none⟩ = some u → W7.cell? ⟨x, o, none⟩ = some u := fun hlt h => (hG7.out.cell_far ⟨_, _, none⟩ (by simp; omega) (fun e => by have := hlit _ e.symm; simp at this; omega)).trans (by
        rw [World.cell?_of_block (w := W6) (Below.heap_alloc _ _ _ hlt)]
        exact h)
      have z7 : B < W7.heap.size := Nat.lt_of_lt_of_le (by simp; omega) hG7.out.size
      replace c0 := keep7 z5 c0
      replace c1 := keep7 z5 c1
      clear hr2 hL7 hG7 hA7 HL6 HR6 s1 HLT hlit keep7 c2 c3
      go_wp2_with fail
      refine (pick_any _ _ _ _ _ _ _ HP7.out (by omega) hl (by omega) (by omega)).mono ?_
      rintro e w8 ⟨q, rfl, hq0, hq1, hr, hg, hs⟩
      have HT8 := Lib.hid (HT7.out.read hg)
      have HO8 := Lib.hid (HO7.out.read hg)
      have HR8 := Lib.hid hr
      replace c0 := (hg.cell_far ⟨B, 0, none⟩ z7 (by simpa using hRB.symm)).trans c0
      replace c1 := (hg.cell_far ⟨B, 1, none⟩ z7 (by simpa using hRB.symm)).trans c1
      clear hr hg hs HT7 HO7 HP7 z7 z5
      have z8 : B < w8.heap.size := World.block_lt_of_cell? _ _ c0
      have HN2 : Hid (Near r2) := by rw [HE2.out]; exact HN.out.drop K
      obtain ⟨_, _, h2e, h2c, _, _⟩ := HT8.out.form
      obtain ⟨rfl, rfl⟩ : tv = _ ∧ tc = _ := by simpa using h2e
      clear h2e HE2
      have htl : (qs.take K).length = K := by rw [List.length_take]; omega
      have s2 := fun u => (run_cutHi u av qs.length cv K (K : Int) rfl (by omega)).trans (by rw [hcz])
      by_cases q0 : q = 0
      · subst q0
        go_wp2
        go_region_law (first
          | (have hq := hL9.out; refine step_layr (W0 := w) (by rfl) _ _ (by rfl) hq HT9.out (by rfl) (by rfl) rfl (by have := hr3l.out; have := h2l.out; omega) ?_; intro r4 av4 cv4 W10 hr10 hL10 hG10 hA10)
          | (refine step_layr (W0 := w) (p := [(X, y')]) (v := .slice av K cv) (by rfl) _ _ (by rfl) ((HO8.out.cutHi hK).alloc _).drawn1 (pts_one _ _ _ _).dr1 (by rfl) (by rfl) rfl (by rw [htl]; show K + 1 ≤ 1000000; omega) ?_; intro r3 av3 cv3 W9 hr9 hL9 hG9 hA9; have HT9 := Lib.hid (PtsAt.past (HT8.out.alloc _).drawn1.pts.1 hG9.out (fun k e e' => HAP.out k (by rw [own_blk]; exact e) (by rw [own_blk] at e' ⊢; exact e'))); have hr3l : Hid (r3.length = K + 1) := (by show _ = _; rw [hr9.out]; simp; omega)))
        all_goals
          have HR9 : Hid (Rd W9 R a len cap (p' + 1 + 1 + 1 + 1)) := ((HR8.out.alloc _).drawn1).past hG9.out hRlt HC.out fun k e => (HO8.out.far (j := k) (by rw [own_blk] at e ⊢; exact e)).1
          have HR10 : Hid (Rd W10 R a len cap (p' + 1 + 1 + 1 + 1)) := HR9.out.past hG10.out hRlt HC.out fun k e => (hL9.out.far e).1
          have hr4l : Hid (r4.length = qs.length + 1) := by show _ = _; rw [hr10.out, List.length_append, hr3l.out, h2l.out]; omega
          have HN10 : Hid (Near r4) := by rw [hr10.out, hr9.out]; exact ((HN.out.take K).app (Near.one hX50)).app HN2.out
          have HL10 := Lib.hid hL10.out
          clear hr10 hr9 hG10 hG9 hA9 hA10 hL9 hL10 HR9 HT9 HT8 HO8 HR8 HN hr3l s2 c0 c1
          go_wp2
          go_roundw
          case rel => exact ⟨j - 1, r4, _, by omega, by have := hr4l.out; omega, by go_num, HL10.out, HN10.out, HR10.out, by omega⟩
          case measure => simp [intOf]; omega
      · have b0 : (q == 0) = false := beq_eq_false_iff_ne.2 q0
        by_cases q1 : q = 1
        · subst q1
          have hM : ((min 1 r2.length : Nat) : Int) = min 1 (r2.length : Int) := by omega
          have s3 := fun u => run_cutLo u tv r2.length tc (min 1 r2.length) (min 1 (r2.length : Int)) hM.symm (by omega)
          go_wp2
          go_region_law (first
            | (refine step_layr (W0 := w) (v := .slice av K cv) (by rfl) _ _ (by rfl) (HO8.out.cutHi hK).drawn1 ((HT8.out.pts.1.cutLo h2c (min 1 r2.length)).dr1) (by rfl) (by rfl) (by rw [List.length_drop]) (by have := h2l.out; rw [htl, List.length_drop]; omega) ?_; intro r3 av3 cv3 W9 hr9 hL9 hG9 hA9)
            | (go_simp; go_at_call 49; refine (l1Min_any _ _ _).mono ?_; rintro e wn ⟨rfl, rfl⟩; dsimp only))
          all_goals
            have hr3l : Hid (r3.length ≤ qs.length) := by show _ ≤ _; have := h2l.out; rw [hr9.out, List.length_append, List.length_drop, htl]; omega
            have HR9 : Hid (Rd W9 R a len cap (p' + 1 + 1 + 1 + 1)) := HR8.out.drawn1.past hG9.out hRlt HC.out fun k e => (HO8.out.far (j := k) (by rw [own_blk] at e ⊢; exact e)).1
            have HN9 : Hid (Near r3) := by rw [hr9.out]; exact (HN.out.take K).app (HN2.out.drop _)
            have HL9 := Lib.hid hL9.out
            clear hr9 hG9 hA9 hL9 HT8 HO8 HR8 HN s2 c0 c1 s3 hM
            go_wp2
            go_roundw
            case rel => exact ⟨j - 1, r3, _, by omega, by have := hr3l.out; omega, by go_num, HL9.out, HN9.out, HR9.out, by omega⟩
            case measure => simp [intOf]; omega
        · have b1 : (q == 1) = false := beq_eq_false_iff_ne.2 q1
          by_cases hz : 0 < r2.length
          · obtain ⟨g, rfl⟩ := HT8.out.some hz
            obtain ⟨bb, oo, e, hglt, d0, d1⟩ := HT8.out.pts.1 0 hz
            obtain ⟨rfl, rfl⟩ : g = bb ∧ 0 = oo := by simpa using e
            obtain ⟨f0, f1⟩ := HT8.out.pts.2.1 0 hz g 0 rfl
            simp only [Nat.zero_mul, Nat.add_zero, Nat.zero_add] at d0 d1 f0 f1
            have hg0 : w.heap.size ≤ g := (HT8.out.pts.2.2 g rfl).1
            have hz' : (0 : Int) < (r2.length : Int) := by omega
            have G9 : w8.grownBy ((w8.setCell ⟨g, 0, none⟩ (.int .i64 X)).setCell ⟨g, 1, none⟩ (.int .i64 y')) (some g) := grown_set (grown_set (World.grownBy.refl _ _) _ _) _ _
            have HO9 : Hid (LayR w R qs ((w8.setCell ⟨g, 0, none⟩ (.int .i64 X)).setCell ⟨g, 1, none⟩ (.int .i64 y')) (.slice av qs.length cv)) := HO8.out.kept G9 (fun k e => .inl (by obtain rfl : g = k := (by simpa using e); exact hg0)) fun k e e' => by
              obtain rfl : g = k := by simpa using e
              exact HAP.out g rfl e'
            have HR9' : Hid (Rd ((w8.setCell ⟨g, 0, none⟩ (.int .i64 X)).setCell ⟨g, 1, none⟩ (.int .i64 y')) R a len cap (p' + 1 + 1 + 1 + 1)) := HR8.out.past G9 hRlt HC.out fun k e => by obtain rfl : g = k := (by simpa using e); exact hg0
            have HP9 : Hid (PtsAt ((w8.setCell ⟨g, 0, none⟩ (.int .i64 X)).setCell ⟨g, 1, none⟩ (.int .i64 y')) (some ⟨g, 0, none⟩) ((X, y') :: r2.tail)) := HT8.out.pts.1.put0' hz X y'
            have HPL : Hid (r2.length = ((X, y') :: r2.tail).length) := by show _ = _; rw [List.length_cons, List.length_tail]; omega
            clear e G9
            go_wp2_with (at_builtin; refine wpList_layr (W0 := w) (v := .slice av K cv) (by rfl) _ _ (by rfl) (HO9.out.cutHi hK) HP9.out (by rfl) (by rfl) HPL.out (by have := h2l.out; have := HPL.out; rw [htl]; omega) ?_; intro r3 av3 cv3 W9 hr9 hL9 hG9 hA9)
            have hr3l : Hid (r3.length = qs.length) := by show _ = _; have := h2l.out; rw [hr9.out, List.length_append, ← HPL.out, htl]; omega
            have HR9 : Hid (Rd W9 R a len cap (p' + 1 + 1 + 1 + 1)) := HR9'.out.past hG9.out hRlt HC.out fun k e => (HO8.out.far (j := k) (by rw [own_blk] at e ⊢; exact e)).1
            have HN9 : Hid (Near r3) := by rw [hr9.out]; exact (HN.out.take K).app ((Near.one hX50 : Near [(X, y')]).app (fun z hz => HN2.out z (List.mem_of_mem_tail hz)))
            have HL9 := Lib.hid hL9.out
            clear hr9 hG9 hA9 hL9 HT8 HO8 HR8 HN s2 c0 c1 d0 d1 f0 f1 HO9 HR9' HP9
            go_wp2
            go_roundw
            case rel => exact ⟨j - 1, r3, _, by omega, by have := hr3l.out; omega, by go_num, HL9.out, HN9.out, HR9.out, by omega⟩
            case measure => simp [intOf]; omega
          · have hz' : ¬ (0 : Int) < (r2.length : Int) := by omega
            go_wp2_with (at_builtin; refine wpList_layr (W0 := w) (v := .slice av K cv) (by rfl) _ _ (by rfl) (HO8.out.cutHi hK) HT8.out.pts.1 (by rfl) (by rfl) rfl (by have := h2l.out; rw [htl]; omega) ?_; intro r3 av3 cv3 W9 hr9 hL9 hG9 hA9)
            have hr3l : Hid (r3.length = qs.length) := by show _ = _; have := h2l.out; rw [hr9.out, List.length_append, htl]; omega
            have HR9 : Hid (Rd W9 R a len cap (p' + 1 + 1 + 1 + 1)) := HR8.out.past hG9.out hRlt HC.out fun k e => (HO8.out.far (j := k) (by rw [own_blk] at e ⊢; exact e)).1
            have HN9 : Hid (Near r3) := by rw [hr9.out]; exact (HN.out.take K).app (HN2.out)
            have HL9 := Lib.hid hL9.out
            clear hr9 hG9 hA9 hL9 HT8 HO8 HR8 HN s2 c0 c1
            go_wp2
            go_roundw
            case rel => exact ⟨j - 1, r3, _, by omega, by have := hr3l.out; omega, by go_num, HL9.out, HN9.out, HR9.out, by omega⟩
            case measure => simp [intOf]; omega
    · go_wp2
      go_ret
      exact ⟨av, cv, qs, p', rfl, HL.out, by omega, HN.out, HR1.out, by omega⟩
end Go.Proofs.Ytaefibefagbheaa
