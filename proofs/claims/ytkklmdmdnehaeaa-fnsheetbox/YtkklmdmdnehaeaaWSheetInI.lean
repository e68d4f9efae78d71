/- Proved here: the program's iterator over the things that touch a box hands over just those, in their order; no condition. -/
import Derived.RangeFuncNested
import Derived.RangeFuncBound
import Derived.RangeFuncCalls
import Derived.RangeFuncLeaves
import Derived.RangeFuncBox
import Derived.Shelf.Abstract
import Derived.Shelf.RegionOpen
import Derived.WalkKit
import Derived.OwnWalkIn
import Derived.TacticsInMore
import Derived.LoopNIn
import Derived.LoopIn
import Derived.Maps.AppendAt
import Derived.Test.YtkklmdmdnehaeaaWSheetInS
import Derived.Test.YtkklmdmdnehaeaaWMarkList
namespace Go.Proofs.Ytkklmdmdnehaeaa
set_option linter.unusedVariables false
open Go.ChangeShapes Go.WideShapes Go.ChangeAt Go.RowKit Go.Deep Go.Shelf

attribute [local go_sem] Oper.semAt_some

/-- what a thing is handed over as -/
abbrev Hd := ByteArray × Int × (Option Addr × Nat × Nat) × (Option Addr × Nat × Nat)

theorem PtsAt.far {W0 W w' : World} {a : Option Addr} {ps : List (Int × Int)} {S : Nat → Prop} (h : PtsAt W0 a ps) (hb : Below W0.heap.size W0 W) (ht : Turned W w' S) (hS : ∀ x, x < W0.heap.size → ¬ S x) : PtsAt w' a ps := by
  intro i hi
  obtain ⟨b, off, rfl, hlt, h1, h2⟩ := h i hi
  exact ⟨b, off, rfl, Nat.lt_of_lt_of_le (Nat.lt_of_lt_of_le hlt hb.size) ht.size, ht.cell (cell_later hb h1) (hS b hlt), ht.cell (cell_later hb h2) (hS b hlt)⟩

theorem grown_below {w w' : World} (h : Below w.heap.size w w') : w.grownBy w' none := ⟨h.os, h.tape, h.output, h.size, fun k hk _ => h.block k hk⟩

set_option maxRecDepth 100000 in
set_option maxHeartbeats 8000000 in
theorem featsInBox1_in (n : Nat) (hn : 1 ≤ n) (l Bs Ba Bb m B : Nat) (a : Option Addr) (cap : Nat) (fs : List Ft) (ax ay bx bY : Int) (hl : fs.length ≤ 1048576) (J Jx : List Hd → World → Prop) (W W0 : World) (hJ : AbidesFrom W.heap.size J)
    (hY : ∀ pre (x : Hd) W1, J pre W1 → pre.length < fs.length → YieldAt Fence.wide (n - 1) Try.prog l #[.agg #[.string x.1, .int .i64 x.2.1, .slice x.2.2.1.1 x.2.2.1.2.1 x.2.2.1.2.2, .slice x.2.2.2.1 x.2.2.2.2.1 x.2.2.2.2.2]] W1 fun e W' =>
      (e = .returned (.bool true) ∧ J (pre ++ [x]) W' ∧ Turned W1 W' (fun y => m ≤ y ∨ y = B)) ∨ (e = .returned (.bool false) ∧ Jx (pre ++ [x]) W'))
    (h0 : J [] W) (hs : W.cell? ⟨Bs, 0, none⟩ = some (.slice a fs.length cap)) (ha0 : W.cell? ⟨Ba, 0, none⟩ = some (.int .i64 ax)) (ha1 : W.cell? ⟨Ba, 1, none⟩ = some (.int .i64 ay)) (hb0 : W.cell? ⟨Bb, 0, none⟩ = some (.int .i64 bx)) (hb1 : W.cell? ⟨Bb, 1, none⟩ = some (.int .i64 bY))
    (hm : Ba < m ∧ Bb < m ∧ Ba ≠ B ∧ Bb ≠ B) (hF : FeatsAt W0 a fs) (hW0 : Below W0.heap.size W0 W) (hB0 : W0.heap.size ≤ B) (hm0 : W0.heap.size ≤ m) :
    CallsIn Fence.wide n Try.prog 47 #[.func (.yield l) #[] #[], .pointer (some ⟨Bs, 0, none⟩), .pointer (some ⟨Ba, 0, none⟩), .pointer (some ⟨Bb, 0, none⟩)] W fun e W' => (∃ v, e = .returned v) ∧
      ((∃ ys : List Hd, ys.map (·.1) = inN ax ay bx bY fs fs.length ∧ J ys W') ∨ (∃ pre, True ∧ Jx pre W')) := by
  have HF := Lib.hid hF
  have HJ := Lib.hid hJ
  have HY := Lib.hid hY
  clear hF hJ hY
  refine callsIn_of_wp Try.func47 rfl trivial ?_ rfl
  simp only [Try.ntmps47, List.size_toArray, List.length_cons, List.length_nil, Nat.reduceAdd, Nat.reduceSub, Array.replicate_succ, Array.replicate_zero, List.push_toArray, List.append_toArray, List.nil_append, List.cons_append]
  gi_wp2
  gi_loopw [9] (fun i wr => ∃ (k : Nat) (pre : List Hd), k ≤ fs.length ∧ i = .int .i64 k ∧ pre.map (·.1) = inN ax ay bx bY fs k ∧ J pre wr ∧ Turned W wr (fun y => m ≤ y ∨ y = B)) (fun i _ => fs.length - (intOf i).toNat)
  case atStart => exact ⟨0, [], Nat.zero_le _, rfl, rfl, h0, Turned.refl _ _⟩
  case round =>
    obtain ⟨k, pre, hk, rfl, hpre, hJs, htu⟩ := hrel
    have hpl : pre.length ≤ k := by have := inN_len ax ay bx bY fs k; rw [← hpre, List.length_map] at this; exact this
    by_cases hlt : k < fs.length
    · obtain ⟨b, off, pa, pc, ta, tc, rfl, hb, hc1, hc2, hc3, hc4, hpp, htt⟩ := HF.out k hlt
      have low : ∀ x, x < W0.heap.size → ¬ (m ≤ x ∨ x = B) := fun x hx h => by omega
      have nb := low b hb
      replace hc1 := htu.cell (cell_later hW0 hc1) nb
      replace hc2 := htu.cell (cell_later hW0 hc2) nb
      replace hc3 := htu.cell (cell_later hW0 hc3) nb
      replace hc4 := htu.cell (cell_later hW0 hc4) nb
      have nA : ¬ (m ≤ Ba ∨ Ba = B) := fun h => by omega
      have nB : ¬ (m ≤ Bb ∨ Bb = B) := fun h => by omega
      have ea0 := htu.cell ha0 nA
      have ea1 := htu.cell ha1 nA
      have eb0 := htu.cell hb0 nB
      have eb1 := htu.cell hb1 nB
      have PP := Lib.hid (hpp.far hW0 htu low)
      have zA := World.block_lt_of_cell? _ _ ea0
      have zB := World.block_lt_of_cell? _ _ eb0
      have HJS := Lib.hid hJs
      have HTU := Lib.hid htu
      have A1 : Hid (∀ o, Below wr.heap.size wr (wr.alloc o)) := fun o => (Below.refl _ _).alloc (Nat.le_refl _) _
      clear hpp htt hJs htu low nA nB nb
      by_cases htc : touches ax ay bx bY (fkd fs k) (fps fs k) = true
      · have HT := Lib.hid htc
        clear htc
        gi_wp2_with (refine ⟨trivial, ?_⟩; gi_at_call 48; refine (callsIn_wide.2 (touchesBox_any (fkd fs k) pa pc (fps fs k) ax ay bx bY _ (PP.out.below (A1.out _)))).mono ?_; rintro e w1 ⟨rfl, hbn⟩; rw [HT.out]; have BN : Hid (Below wr.heap.size wr w1) := (A1.out _).trans (hbn.mono (by simp)); obtain ⟨q0, q1, q2, q3⟩ := (Box4.new wr (.string (fid fs k)) (.int .i64 (fkd fs k)) (.slice pa (fps fs k).length pc) (.slice ta (fts fs k).length tc) 38).later hbn; have HJ1 : Hid (J pre w1) := (HJ.out _ _ _ none HJS.out (grown_below BN.out) (fun r e => by cases e)); clear hbn; obtain ⟨fn, tmps, assign, body, hy, hR⟩ := HY.out pre (fid fs k, fkd fs k, (pa, (fps fs k).length, pc), (ta, (fts fs k).length, tc)) w1 HJ1.out (by omega); dsimp only at hy)
        refine hR.mono ?_
        rintro e W3 (⟨rfl, hJ3, hk3⟩ | ⟨rfl, hJx3⟩)
        · gi_wp2
          go_roundw
          case rel => exact ⟨k + 1, pre ++ [(fid fs k, fkd fs k, (pa, (fps fs k).length, pc), (ta, (fts fs k).length, tc))], by omega, by go_num, by simp [inN, HT.out, hpre], hJ3, (HTU.out.trans (Turned.of_below BN.out)).trans hk3⟩
          case measure => simp [intOf]; omega
        · gi_wp2
          refine bodyPost_ret (results_none rfl _ _ _) rfl ?_
          exact ⟨⟨_, rfl⟩, .inr ⟨_, trivial, hJx3⟩⟩
      · have HT : Hid (touches ax ay bx bY (fkd fs k) (fps fs k) = false) := by simpa [Hid] using htc
        clear htc
        gi_wp2_with (refine ⟨trivial, ?_⟩; gi_at_call 48; refine (callsIn_wide.2 (touchesBox_any (fkd fs k) pa pc (fps fs k) ax ay bx bY _ (PP.out.below (A1.out _)))).mono ?_; rintro e w1 ⟨rfl, hbn⟩; rw [HT.out]; have BN : Hid (Below wr.heap.size wr w1) := (A1.out _).trans (hbn.mono (by simp)); obtain ⟨q0, q1, q2, q3⟩ := (Box4.new wr (.string (fid fs k)) (.int .i64 (fkd fs k)) (.slice pa (fps fs k).length pc) (.slice ta (fts fs k).length tc) 38).later hbn; have HJ1 : Hid (J pre w1) := (HJ.out _ _ _ none HJS.out (grown_below BN.out) (fun r e => by cases e)); clear hbn)
        refine ⟨fun _ h => (by cases h), ?_⟩
        gi_wp2
        go_roundw
        case rel => exact ⟨k + 1, pre, by omega, by go_num, by simp [inN, HT.out, hpre], HJ1.out, HTU.out.trans (Turned.of_below BN.out)⟩
        case measure => simp [intOf]; omega
    · obtain rfl : k = fs.length := by omega
      gi_wp2
      go_end0
      exact ⟨⟨_, rfl⟩, .inl ⟨pre, hpre, hJs⟩⟩

set_option maxRecDepth 100000 in
theorem featsInBox_any (a : Option Addr) (len cap : Nat) (ax ay bx bY : Int) (w : World) :
    Calls Try.prog 26 #[.slice a len cap, .agg #[.int .i64 ax, .int .i64 ay], .agg #[.int .i64 bx, .int .i64 bY]] w fun e w' => e = .returned (.func (.func 47) #[] #[.pointer (some ⟨w.heap.size, 0, none⟩), .pointer (some ⟨w.heap.size + 1, 0, none⟩), .pointer (some ⟨w.heap.size + 1 + 1, 0, none⟩)]) ∧ w' = ((w.alloc (.cells #[.slice a len cap] 23)).alloc (.cells #[.int .i64 ax, .int .i64 ay] 25)).alloc (.cells #[.int .i64 bx, .int .i64 bY] 25) := by
  go_enter Try.func26, Try.ntmps26
  go_wp2
  go_ret
  exact ⟨rfl, rfl⟩

/-- the values that a thing is handed over as -/
def hdV (x : Hd) : Array Value := #[.agg #[.string x.1, .int .i64 x.2.1, .slice x.2.2.1.1 x.2.2.1.2.1 x.2.2.1.2.2, .slice x.2.2.2.1 x.2.2.2.2.1 x.2.2.2.2.2]]

set_option maxRecDepth 100000 in
set_option maxHeartbeats 8000000 in
theorem implSheetIn_any (a : Option Addr) (cap : Nat) (fs : List Ft) (ax ay bx bY : Int) (w : World) (hp : FeatsAt w a fs) (hl : fs.length ≤ 1048576) (ht : FeatsLen fs 1048576) :
    Calls Try.prog 8 #[.slice a fs.length cap, .agg #[.int .i64 ax, .int .i64 ay], .agg #[.int .i64 bx, .int .i64 bY]] w fun e w' => (∃ v, e = .returned v ∧ Names w' w.heap.size v (inAll ax ay bx bY fs)) ∧ Below w.heap.size w w' := by
  have HP := Lib.hid hp
  have HL := Lib.hid ht
  obtain ⟨i0, hi, hz0, hz1, hz2⟩ := info_parts infoStr
  have HI := Lib.hid hi
  have HZ0 := Lib.hid hz0
  have HZ1 := Lib.hid hz1
  have HZ2 := Lib.hid hz2
  clear hp ht hi hz0 hz1 hz2
  have A0 : Hid (∀ o o', Below w.heap.size w ((w.alloc o).alloc o')) := fun o o' => ((Below.refl _ _).alloc (Nat.le_refl _) _).alloc (by simp) _
  refine (callsIn_wide (n := 6)).1 ?_
  refine callsIn_of_wp_marks Try.func8 rfl trivial ?_ rfl
  simp only [Try.ntmps8, List.size_toArray, List.length_cons, List.length_nil, Nat.reduceAdd, Nat.reduceSub, Array.replicate_succ, Array.replicate_zero, List.push_toArray, List.append_toArray, List.nil_append, List.cons_append]
  by_cases hok : sheetOk fs = true
  · have HOK := Lib.hid hok
    have HE : Hid (inAll ax ay bx bY fs = inN ax ay bx bY fs fs.length) := by show _ = _; simp [inAll, hok]
    clear hok
    gi_wp2_with (first
      | (refine ⟨trivial, ?_⟩; gi_at_call 25; refine (callsIn_wide.2 (implSheetOk_any a cap fs _ (HP.out.below (A0.out _ _)) hl HL.out)).mono ?_; rintro e w1 ⟨rfl, hb1⟩; rw [HOK.out]; have c0 := cell_later hb1 (a := ⟨w.heap.size, 0, none⟩) (v := .int .i64 ax) (by simp [go_sem]); have c1 := cell_later hb1 (a := ⟨w.heap.size, 1, none⟩) (v := .int .i64 ay) (by simp [go_sem]); have d0 := cell_later hb1 (a := ⟨w.heap.size + 1, 0, none⟩) (v := .int .i64 bx) (by simp [go_sem]); have d1 := cell_later hb1 (a := ⟨w.heap.size + 1, 1, none⟩) (v := .int .i64 bY) (by simp [go_sem]); have z1 : w.heap.size + 1 < w1.heap.size := World.block_lt_of_cell? _ _ d0; have e0 : ∀ o, (w1.alloc o).cell? ⟨w.heap.size, 0, none⟩ = some (.int .i64 ax) := (fun o => cell_later ((Below.refl _ _).alloc (Nat.le_refl _) _) c0); have e1 : ∀ o, (w1.alloc o).cell? ⟨w.heap.size, 1, none⟩ = some (.int .i64 ay) := (fun o => cell_later ((Below.refl _ _).alloc (Nat.le_refl _) _) c1); have f0 : ∀ o, (w1.alloc o).cell? ⟨w.heap.size + 1, 0, none⟩ = some (.int .i64 bx) := (fun o => cell_later ((Below.refl _ _).alloc (Nat.le_refl _) _) d0); have f1 : ∀ o, (w1.alloc o).cell? ⟨w.heap.size + 1, 1, none⟩ = some (.int .i64 bY) := (fun o => cell_later ((Below.refl _ _).alloc (Nat.le_refl _) _) d1); have B1 : Hid (Below w.heap.size w w1) := ((A0.out _ _).trans (hb1.mono (by simp; omega))); clear hb1 c0 c1 d0 d1)
      | (refine ⟨trivial, ?_⟩; gi_at_call 26; refine (callsIn_wide.2 (featsInBox_any a fs.length cap ax ay bx bY _)).mono ?_; rintro e w2 ⟨rfl, hw2⟩))
    have m4 : w2.heap.size = w1.heap.size + 4 := by rw [hw2]; simp
    have bO : Boxed w2 w1.heap.size 28 (.slice none 0 0) := by rw [hw2]; exact (((Boxed.new w1 _ _).alloc _).alloc _).alloc _
    have s0 : w2.cell? ⟨w1.heap.size + 1, 0, none⟩ = some (.slice a fs.length cap) := by rw [hw2]; simp [go_sem]
    have a0 : w2.cell? ⟨w1.heap.size + 1 + 1, 0, none⟩ = some (.int .i64 ax) := by rw [hw2]; simp [go_sem]
    have a1 : w2.cell? ⟨w1.heap.size + 1 + 1, 1, none⟩ = some (.int .i64 ay) := by rw [hw2]; simp [go_sem]
    have b0 : w2.cell? ⟨w1.heap.size + 1 + 1 + 1, 0, none⟩ = some (.int .i64 bx) := by rw [hw2]; simp [go_sem]
    have b1 : w2.cell? ⟨w1.heap.size + 1 + 1 + 1, 1, none⟩ = some (.int .i64 bY) := by rw [hw2]; simp [go_sem]
    have B2 : Hid (Below w.heap.size w w2) := by
      have := B1.out.size
      rw [hw2]
      exact (((B1.out.alloc this _).alloc (by simp; omega) _).alloc (by simp; omega) _).alloc (by simp; omega) _
    rw [← hw2]
    clear hw2 e0 e1 f0 f1
    refine wpIn_rangeFunc_ownH (α := Hd) rfl (by omega) (gf := 47) (lb := #[.pointer (some ⟨w1.heap.size + 1, 0, none⟩), .pointer (some ⟨w1.heap.size + 1 + 1, 0, none⟩), .pointer (some ⟨w1.heap.size + 1 + 1 + 1, 0, none⟩)]) rfl trivial (enters_of Try.func47 (by kernel_rfl) rfl)
      (encs := fun x : Hd => #[.agg #[.string x.1, .int .i64 x.2.1, .slice x.2.2.1.1 x.2.2.1.2.1 x.2.2.1.2.2, .slice x.2.2.2.1 x.2.2.2.2.1 x.2.2.2.2.2]]) (Kp := fun A C => Turned A C (fun y => w2.heap.size ≤ y ∨ y = w1.heap.size)) (S := fun ys => ys.map (·.1) = inN ax ay bx bY fs fs.length) (Sp := fun _ => True) (N := fs.length) (w0 := w2)
      (fun l J Jx W hW hJ hJx hY h0 => featsInBox1_in 5 (by omega) l (w1.heap.size + 1) (w1.heap.size + 1 + 1) (w1.heap.size + 1 + 1 + 1) w2.heap.size w1.heap.size a cap fs ax ay bx bY hl J Jx W w hJ hY h0 (cell_later hW s0) (cell_later hW a0) (cell_later hW a1) (cell_later hW b0) (cell_later hW b1) (by omega) HP.out (B2.out.trans (hW.mono B2.out.size)) B1.out.size B2.out.size)
      (fun h k => h.trans k) (fun W l o o' hl h _ _ => Turned.of_grown (grownBy_putObj' W l o') (fun x e => by cases e; exact .inl hl)) (Below.refl _ _) (fun _ => rfl)
      (fun pre W => (∃ v, Boxed W w1.heap.size 28 v ∧ W.ownsRow w2.heap.size 9 1 v pre.length ((pre.map (·.1)).map Value.string) ∧ True) ∧ Below w.heap.size w W ∧ w2.heap.size ≤ W.heap.size)
      (fun _ _ _ => False)
      (OwnFrom.and (Own.from (holdsRow_own w2.heap.size w1.heap.size 28 9 1 (fun pre : List Hd => pre.length) (fun pre : List Hd => (pre.map (·.1)).map Value.string) (fun _ _ => True)) _) (OwnFrom.and (ownFrom_below (Nat.le_refl _) (by have := B1.out.size; omega)) (fun s A C row hs hg _ => Nat.le_trans hs hg.size)))
      (fun _ _ _ _ _ hs _ _ => hs)
      ⟨⟨_, bO, World.ownsRow_nil _ _ _ _, trivial⟩, B2.out, Nat.le_refl _⟩
      (fun x a' W => ∃ Bx, w2.heap.size ≤ Bx ∧ W.cell? ⟨Bx, 0, none⟩ = some (.string x.1) ∧ a' = { tmps := #[.slice a fs.length cap, .agg #[.int .i64 ax, .int .i64 ay], .agg #[.int .i64 bx, .int .i64 bY], undef, .pointer (some ⟨w.heap.size, 0, none⟩), .pointer (some ⟨w.heap.size + 1, 0, none⟩), .slice none 0 0, .pointer (some ⟨w1.heap.size, 0, none⟩), .pointer (some ⟨Bx, 0, none⟩), .slice a fs.length cap, .bool true, .bool false, .slice a fs.length cap, .agg #[.int .i64 ax, .int .i64 ay], .agg #[.int .i64 bx, .int .i64 bY], .func (.func 47) #[] #[.pointer (some ⟨w1.heap.size + 1, 0, none⟩), .pointer (some ⟨w1.heap.size + 1 + 1, 0, none⟩), .pointer (some ⟨w1.heap.size + 1 + 1 + 1, 0, none⟩)], .agg #[.string x.1, .int .i64 x.2.1, .slice x.2.2.1.1 x.2.2.1.2.1 x.2.2.1.2.2, .slice x.2.2.2.1 x.2.2.2.2.1 x.2.2.2.2.2], undef, undef, undef, undef, undef, undef], defers := [] })
      (fun x a' _ A C row hs hg hr => by
        obtain ⟨Bx, h1, h2, h3⟩ := hs
        exact ⟨Bx, h1, cell_kept h2 hg (fun r e => (hr r e).2), h3⟩)
      ?assign ?body ?done ?stop
    case assign =>
      rintro l pre x W K ⟨⟨v, hv, hrow, _⟩, hB, hz⟩ hK
      gi_wp2
      exact hK _ _ ((KeepsOthers.alloc _ _).from _) (Turned.of_below ((Below.refl _ _).alloc (Nat.le_refl _) _)) ⟨⟨v, hv.alloc _, hrow.alloc _, trivial⟩, hB.alloc hB.size _, by simp; omega⟩ ⟨W.heap.size, hz, by simp [go_sem], rfl⟩
    case body =>
      rintro l pre x a' W hl' ⟨r, hr⟩ ⟨⟨v, hv, hrow, _⟩, hB, hz⟩ ⟨Bx, hBx, hcx, rfl⟩ hlt
      have hc := hv.cell
      have zw := B1.out.size
      have hrow' : W.ownsRow w.heap.size 9 1 v pre.length ((pre.map (·.1)).map Value.string) := ownsRow_lo hrow (by omega)
      gi_wp2_with (gi_at_builtin; refine wpListIn_append_own _ rfl _ _ 28 rfl w2.heap.size 9 i0 (.string .empty) 1 16 Try.underlying28 HI.out HZ0.out HZ1.out HZ2.out rfl (by decide) _ _ _ rfl (hrow.alloc _) ⟨W.heap.size, 0, none⟩ 1 1 [.string x.1] rfl rfl (cell_one_new _ _ _) (by simp [Value.oneCell']) (by unfold maxLen; omega) (by omega) (by simp; omega) ?_; intro v' w3 hown' hgrow _; obtain ⟨g', cap', rfl⟩ := ownsRow_succ hown'; obtain ⟨hv1, hv2, hr2, hk2, hb2⟩ := hv.appended (by decide) hrow' hB.size zw (ownsRow_lo hown' (by omega)) hgrow; have hc1 := hv1.cell; have hf1 := hv1.frozen; have hr3 := hown'.kept (grownBy_setCell' w3 w1.heap.size (.slice (some ⟨g', 0, none⟩) (pre.length + 1) cap')) (.inr (hv1.not_row (by decide) hown').symm); have hK3 : Turned W (w3.setCell ⟨w1.heap.size, 0, none⟩ (.slice (some ⟨g', 0, none⟩) (pre.length + 1) cap')) (fun y => w2.heap.size ≤ y ∨ y = w1.heap.size) := ((Turned.of_below ((Below.refl _ _).alloc (Nat.le_refl _) _)).trans (Turned.of_grown hgrow (fun x hx => .inl (hrow.lt x hx).1))).trans (Turned.of_set _ _ _ (.inr rfl)))
      exact ⟨hk2.from _, hK3, ⟨_, hv2, by simpa using hr3, trivial⟩, hB.trans hb2, Nat.le_trans hz hK3.size⟩
    case done =>
      rintro D ys W hD hS ⟨⟨v, hv, hrow, _⟩, hB, hz⟩ hK
      have hc := hv.cell
      have zw := B1.out.size
      gi_wp2
      refine ⟨by simp, .inl ⟨_, _, rfl, run_takeDeferred hK, ?_⟩⟩
      refine ⟨_, results_tmp rfl _ _ _, ⟨v, rfl, ?_⟩, hB.trans (belowK_b (w := w) (Nat.le_refl _) W D _ _ (by omega) hK rfl rfl)⟩
      rw [HE.out, ← hS]
      have := ownsRow_lo (ownsRow_putObj hrow (.deferred none) hK rfl) (base' := w.heap.size) (by omega)
      simpa [Names] using this
    case stop =>
      rintro D c pre W _ _ h _
      exact h.elim
  · have hok' : sheetOk fs = false := by simpa using hok
    have HOK := Lib.hid hok'
    have HE : Hid (inAll ax ay bx bY fs = []) := by show _ = _; simp [inAll, hok']
    clear hok hok'
    gi_wp2_with (refine ⟨trivial, ?_⟩; gi_at_call 25; refine (callsIn_wide.2 (implSheetOk_any a cap fs _ (HP.out.below (A0.out _ _)) hl HL.out)).mono ?_; rintro e w1 ⟨rfl, hb1⟩; rw [HOK.out]; have B1 : Hid (Below w.heap.size w w1) := ((A0.out _ _).trans (hb1.mono (by simp; omega))); clear hb1)
    refine ⟨_, results_tmp rfl _ _ _, ?_⟩
    rw [HE.out]
    exact ⟨⟨_, rfl, World.ownsRow_nil _ _ _ _⟩, B1.out⟩
end Go.Proofs.Ytkklmdmdnehaeaa
