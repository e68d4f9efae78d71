/- Proved here: the function that marks a list of things does so thing by thing; lists of at most 1,048,576 things, points and tags. Proved here: the model's look for a name among things answers the place of the first, or -1; lists of at most 1,048,576 things. Proved here: the model's copy of a thing ends whatever its lists hold, and holds the same points; at most 1,048,576 points and tags. Proved here: the model's copy of a thing without points and tags ends, and is one; no condition. Proved here: the model's thing of a name is a copy of the first of that name, in memory of its own; lists of at most 1,048,576 things, points and tags, texts of at most 1,048,576 bytes. Proved here: the program's thing of a name, by a map of names, is a copy of the first of that name, in memory of its own; lists of at most 1,048,576 things, points and tags, texts of at most 1,048,576 bytes. Proved here: a list of things that is built by appending copies, its parts apart from each other and from the row; no condition. Proved here: the things of a map by names, told in the order of their names, each copied into memory of its own; a map of at most 1,048,577 things. Proved here: the program's map without a name holds copies of the other things, in memory of its own; lists of at most 1,048,576 things, points and tags, texts of at most 1,048,576 bytes. Proved here: the model's list without a name, and its copy of a list, read as they should; lists of at most 1,048,576 things, points and tags. Proved here: a list that a function made in memory of its own is read, marked, and asked for its marks; lists of at most 1,048,576 things, points and tags. Proved here: what a list of things is with a thing put in, as the model goes through it and as a map by names tells it; a thing appended to a row of things; no condition. Proved here: the program's map with a thing holds copies of the things, in memory of its own; lists of at most 1,048,576 things, points and tags, texts of at most 1,048,576 bytes. Proved here: the model's map without a name holds copies of the other things; lists of at most 1,048,576 things, points and tags, texts of at most 1,048,576 bytes. Proved here: the model's map with a thing holds copies of the things; lists of at most 1,048,576 things, points and tags, texts of at most 1,048,576 bytes. -/
import Derived.Test.YtelimcknhaflfaaGreatWMarkList
import Derived.Test.YtelimcknhaflfaaGreatWSheetOk
import Derived.Test.YtelimcknhaflfaaGreatWAppend0
import Derived.Test.YtelimcknhaflfaaGreatWFeatCopy
import Derived.Test.YtelimcknhaflfaaGreatWSheetOkI
import Derived.Deep.RegionHeld3
import Derived.Deep.DeepCutAuto
namespace Go.Proofs.YtelimcknhaflfaaGreat
set_option linter.unusedVariables false
open Go.ChangeShapes Go.WideShapes Go.ChangeAt Go.RowKit

set_option maxRecDepth 100000 in
set_option maxHeartbeats 4000000 in
theorem markFeatS_some (b off cap : Nat) (fs : List Ft) (ad : Nat → Pl) (k : Int) (w : World) (hl : fs.length ≤ 1048576) (hL : FeatsLen fs 1048576) (h0 : 0 ≤ k) (h4 : k ≤ 4) (hlie : Lies w b off fs ad) (hsep : Sep b fs.length ad) :
    Calls Tryz.prog 13 #[.slice (some ⟨b, off, none⟩) fs.length cap, .int .i64 k] w fun e w' => e = .returned (.int .i64 (lmk fs k fs.length)) ∧ Lies w' b off (lmkTo fs k fs.length) ad ∧ Turned w w' (blocksOf b fs.length ad) := by
  have HL := Lib.hid hL
  have HLie : Hid (Lies w b off (lmkTo fs k 0) ad) := by rw [lmkTo_zero]; exact hlie
  have HS := Lib.hid hsep
  clear hL hlie hsep
  go_enter Tryz.func13, Tryz.ntmps13
  go_wp2
  go_loopw [1, 5] (fun s1 i wr => ∃ j : Nat, j ≤ fs.length ∧ s1 = .int .i64 (lmk fs k j) ∧ i = .int .i64 j ∧ Lies wr b off (lmkTo fs k j) ad ∧ Turned w wr (blocksOf b fs.length ad)) (fun _ i _ => fs.length - (intOf i).toNat)
  case atStart => exact ⟨0, Nat.zero_le _, rfl, rfl, HLie.out, Turned.refl _ _⟩
  case round =>
    clear HLie
    obtain ⟨j, hj, rfl, rfl, hlie, htu⟩ := hrel
    have HLi := Lib.hid hlie
    have HT := Lib.hid htu
    have blt := hlie.lt
    clear hlie htu
    obtain ⟨k0, k1⟩ := lmk_le h0 h4 HL.out j hj
    by_cases hlt : j < fs.length
    · obtain ⟨l1, l2, l3, l4⟩ := HL.out j hlt
      clear l4
      have hlj : j < (lmkTo fs k j).length := by rw [lmkTo_len]; exact hlt
      go_wp2_with fail
      refine (markText_any _ _ (by omega)).mono ?_
      rintro e w1 ⟨rfl, hb1⟩
      have L1 := Lib.hid (HLi.out.below hb1)
      have T1 : Hid (Turned w w1 (blocksOf b fs.length ad)) := HT.out.trans (Turned.of_below hb1)
      clear hb1 HLi HT
      obtain ⟨c0, c1, c2, c3⟩ := L1.out.cell j hlj
      obtain ⟨f0, f1⟩ := L1.out.soft j hlj
      rw [(lmkTo_pl k j hlt).1] at c2
      rw [(lmkTo_pl k j hlt).2] at c3
      have ob1 : blk (ad j).1.1 ≠ some b := (HS.out.own j hlt).1
      have ob2 : blk (ad j).2.1 ≠ some b := (HS.out.own j hlt).2
      go_wp2_with fail
      generalize h3 : (w1.setCell ⟨b, off + j * 4, none⟩ (.string (markT (lmk fs k j)))).setCell ⟨b, off + j * 4 + 1, none⟩ (.int .i64 (lmk fs k j + 1)) = w3
      have t3 : Turned w1 w3 (fun x => x = b) := by
        rw [← h3]
        exact (Turned.of_set (S := fun x => x = b) w1 _ _ rfl).trans (Turned.of_set _ _ _ rfl)
      have hpl : fps (lmkTo fs k j) j = fps fs j := by unfold fps; rw [lmkTo_at k j hlt, if_neg (by omega)]
      have htl : fts (lmkTo fs k j) j = fts fs j := by unfold fts; rw [lmkTo_at k j hlt, if_neg (by omega)]
      obtain ⟨p1, p2⟩ := L1.out.pts j hlj
      obtain ⟨q1, q2⟩ := L1.out.tags j hlj
      rw [hpl] at p1 p2
      rw [htl] at q1 q2
      have np : ∀ x, blk (ad j).1.1 = some x → ¬ x = b := fun x hx e => ob1 (e ▸ hx)
      have nt : ∀ x, blk (ad j).2.1 = some x → ¬ x = b := fun x hx e => ob2 (e ▸ hx)
      have P3 := Lib.hid (p1.turned t3 np)
      have P3s := Lib.hid (p2.turnedP p1 t3 np)
      have Q3 := Lib.hid (q1.turned t3 nt)
      have Q3s := Lib.hid (q2.turnedT q1 t3 nt)
      have c3' : w3.cell? ⟨b, off + j * 4 + 3, none⟩ = some (.slice (ad j).2.1 (fts fs j).length (ad j).2.2) := by
        rw [← h3, World.cell?_setCell_other _ _ _ _ (by simp), World.cell?_setCell_other _ _ _ _ (by simp)]
        exact c3
      have T3 : Hid (Turned w w3 (blocksOf b fs.length ad)) := T1.out.trans ⟨t3.os, t3.tape, t3.output, t3.size, fun x hx hn => t3.block x hx (fun e => hn (.inl e))⟩
      have H3 := Lib.hid h3
      clear h3 t3 p1 p2 q1 q2 hpl htl c0 c1 c2 c3 f0 f1 T1 np nt
      refine (markPtS_any _ _ _ _ _ P3.out P3s.out (by omega) (by omega) (by omega)).mono ?_
      rintro e w4 ⟨rfl, g1, g2, g3, g4⟩
      have Q4 : Hid (TagsAt w4 (ad j).2.1 (fts fs j)) := Q3.out.turned (S := fun x => blk (ad j).1.1 = some x) (Turned.of_grown g3 fun x hx => hx) fun x hx he => HS.out.two j hlt x he hx
      have Q4s : Hid (Soft w4 (ad j).2.1 (fts fs j).length) := Q3s.out.turnedT Q3.out (S := fun x => blk (ad j).1.1 = some x) (Turned.of_grown g3 fun x hx => hx) fun x hx he => HS.out.two j hlt x he hx
      replace c3' : w4.cell? ⟨b, off + j * 4 + 3, none⟩ = some (.slice (ad j).2.1 (fts fs j).length (ad j).2.2) := g3.cell c3' (fun e => ob1 e.symm)
      have T4 : Hid (Turned w w4 (blocksOf b fs.length ad)) := T3.out.trans (Turned.of_grown g3 fun x hx => .inr ⟨j, hlt, .inl hx⟩)
      have G1 := Lib.hid g1
      have G2 := Lib.hid g2
      have G3 := Lib.hid g3
      clear g1 g2 g3 g4 T3 Q3 Q3s P3 P3s
      go_wp2_with fail
      refine (markTagS_any _ _ _ _ _ Q4.out Q4s.out (by omega) (by omega) (by omega)).mono ?_
      rintro e w5 ⟨rfl, r1, r2, r3⟩
      have e2 : lmk fs k j + 1 + 1 = lmk fs k j + 2 := by omega
      rw [e2] at r1
      have G1' := G1.out
      rw [e2] at G1'
      have L5 : Hid (Lies w5 b off (lmkTo fs k (j + 1)) ad) := L1.out.step hlt HS.out H3.out.symm G1' G2.out G3.out r1 r2 r3
      have T5 : Hid (Turned w w5 (blocksOf b fs.length ad)) := T4.out.trans (Turned.of_grown r3 fun x hx => .inr ⟨j, hlt, .inr hx⟩)
      clear r1 r2 r3 c3' G1'
      go_wp2
      go_roundw
      case rel => exact ⟨j + 1, by omega, congrArg (Value.int .i64) (by show _ = lmk fs k j + 2 + 2 * ((fps fs j).length : Int) + 2 * ((fts fs j).length : Int); omega), by go_num, L5.out, T5.out⟩
      case measure => simp [intOf]; omega
    · obtain rfl : j = fs.length := by omega
      go_wp2
      go_ret
      exact ⟨rfl, HLi.out, HT.out⟩
end Go.Proofs.YtelimcknhaflfaaGreat

namespace Go.Proofs.YtelimcknhaflfaaGreat
set_option linter.unusedVariables false
open Go.ChangeShapes Go.WideShapes Go.ChangeAt Go.RowKit

/-- the place of the first thing of a name; where there is none, how many there are -/
def firstF (fs : List Ft) (id : ByteArray) : Nat := fs.findIdx (fun f => decide (f.1 = id))

theorem fid_get {fs : List Ft} {i : Nat} (h : i < fs.length) : fs[i].1 = fid fs i := by unfold fid; rw [fg_get h]

theorem firstF_hit {fs : List Ft} {id : ByteArray} {k : Nat} (hk : k < fs.length) (h : fid fs k = id) (hall : ∀ j, j < k → fid fs j ≠ id) : firstF fs id = k := by
  unfold firstF
  rw [List.findIdx_eq hk]
  refine ⟨by simp [fid_get hk, h], fun j hj => ?_⟩
  have := hall j hj
  rw [← fid_get (by omega)] at this
  simpa using this

theorem firstF_miss {fs : List Ft} {id : ByteArray} (hall : ∀ j, j < fs.length → fid fs j ≠ id) : firstF fs id = fs.length := by
  unfold firstF
  rw [List.findIdx_eq_length]
  intro x hx
  obtain ⟨i, hi, rfl⟩ := List.getElem_of_mem hx
  have := hall i hi
  rw [← fid_get hi] at this
  simpa using this

theorem firstF_at {fs : List Ft} {id : ByteArray} (h : firstF fs id < fs.length) : fid fs (firstF fs id) = id := by
  have := List.findIdx_getElem (p := fun f : Ft => decide (f.1 = id)) (xs := fs) (w := h)
  rw [← fid_get h]
  exact of_decide_eq_true this

/-- what the look answers -/
def findV (fs : List Ft) (id : ByteArray) : Int := if firstF fs id < fs.length then (firstF fs id : Int) else -1

set_option maxHeartbeats 2000000 in
theorem l3Find_any (a : Option Addr) (cap : Nat) (fs : List Ft) (id : ByteArray) (w : World) (hp : FeatsAt w a fs) (hl : fs.length ≤ 1048576) :
    Calls Tryz.prog 87 #[.slice a fs.length cap, .string id] w fun e w' => e = .returned (.int .i64 (findV fs id)) ∧ w = w' := by
  have HP := Lib.hid hp
  clear hp
  go_enter Tryz.func87, Tryz.ntmps87
  go_wp2
  go_loopw [5] (fun i wr => ∃ k : Nat, k ≤ fs.length ∧ i = .int .i64 k ∧ w = wr ∧ ∀ j, j < k → fid fs j ≠ id) (fun i _ => fs.length - (intOf i).toNat)
  case atStart => exact ⟨0, Nat.zero_le _, rfl, rfl, fun j h => absurd h (Nat.not_lt_zero _)⟩
  case round =>
    obtain ⟨k, hk, rfl, rfl, hall⟩ := hrel
    have HA := Lib.hid hall
    clear hall
    by_cases hlt : k < fs.length
    · obtain ⟨b, off, pa, pc, ta, tc, rfl, hb, hc1, _⟩ := HP.out k hlt
      have hbq := bytes_beq (fid fs k) id
      by_cases hs : fid fs k = id
      · rw [decide_eq_true hs] at hbq
        have HS : Hid (findV fs id = (k : Int)) := by
          have := firstF_hit hlt hs HA.out
          show _ = _
          unfold findV
          rw [this, if_pos hlt]
        clear hs
        go_wp2
        go_ret
        exact ⟨congrArg (fun x => Ending.returned (Value.int .i64 x)) HS.out.symm, rfl⟩
      · rw [decide_eq_false hs] at hbq
        have HS := Lib.hid hs
        clear hs
        go_wp2
        go_roundw
        case rel => exact ⟨k + 1, by omega, by go_num, by trivial, fun j hj => by by_cases e : j = k; (subst e; exact HS.out); exact HA.out j (by omega)⟩
        case measure => simp [intOf]; omega
    · obtain rfl : k = fs.length := by omega
      have HS : Hid (findV fs id = -1) := by
        have := firstF_miss HA.out
        show _ = _
        unfold findV
        rw [this, if_neg (by omega)]
      go_wp2
      go_ret
      exact ⟨congrArg (fun x => Ending.returned (Value.int .i64 x)) HS.out.symm, rfl⟩
end Go.Proofs.YtelimcknhaflfaaGreat

namespace Go.Proofs.YtelimcknhaflfaaGreat
set_option linter.unusedVariables false
open Go.ChangeShapes Go.WideShapes Go.ChangeAt Go.RowKit Go.Deep

theorem keptA {W wn : World} {r : Nat} (hbn : Below W.drew.heap.size W.drew wn) (h : r < W.heap.size) : Kept1 W r wn := (Kept1.refl h).drew.below hbn
theorem keptB {W wn : World} {O : Obj} {r : Nat} (hbn : Below (W.alloc O).drew.heap.size (W.alloc O).drew wn) (h : r < W.heap.size) : Kept1 W r wn := ((Kept1.refl h).alloc O).drew.below hbn
theorem aBelow (wn : World) (O : Obj) : Below wn.heap.size wn (wn.alloc O) := (Below.refl _ _).alloc (Nat.le_refl _) _
theorem szA {W : World} {O : Obj} {B : Nat} (h : W.heap.size = B + 1 + 1) : (W.alloc O).drew.heap.size = B + 1 + 1 + 1 := by show (W.alloc O).heap.size = _; rw [World.size_alloc]; omega

theorem PP2 {V wn : World} {g : Nat} {ps : List (Int × Int)} {v0 v1 v2 v3 : Value} {B : Nat} (hpt : PtsAt wn (some ⟨g, 0, none⟩) ps) (hso : Soft wn (some ⟨g, 0, none⟩) ps.length) (hg : V.heap.size ≤ g) (hglt : g < wn.heap.size) (hW : V.heap.size = B + 1 + 1 + 1 ∨ V.heap.size = B + 1 + 1) :
    PtsAt ((((wn.setCell ⟨B + 1, 0, none⟩ v0).setCell ⟨B + 1, 1, none⟩ v1).setCell ⟨B + 1, 2, none⟩ v2).setCell ⟨B + 1, 3, none⟩ v3) (some ⟨g, 0, none⟩) ps ∧ Soft ((((wn.setCell ⟨B + 1, 0, none⟩ v0).setCell ⟨B + 1, 1, none⟩ v1).setCell ⟨B + 1, 2, none⟩ v2).setCell ⟨B + 1, 3, none⟩ v3) (some ⟨g, 0, none⟩) ps.length ∧
      ∀ x, blk (some ⟨g, 0, none⟩) = some x → B + 1 < x ∧ x < ((((wn.setCell ⟨B + 1, 0, none⟩ v0).setCell ⟨B + 1, 1, none⟩ v1).setCell ⟨B + 1, 2, none⟩ v2).setCell ⟨B + 1, 3, none⟩ v3).heap.size := by
  have hne : blk (some ⟨g, 0, none⟩) ≠ some (B + 1) := by simp [blk]; omega
  exact ⟨(((hpt.set hne).set hne).set hne).set hne, (((hso.set _ _).set _ _).set _ _).set _ _, fun x e => by obtain rfl : g = x := (by simpa [blk] using e); exact ⟨by omega, by simpa [World.setCell] using hglt⟩⟩

set_option maxRecDepth 100000 in
set_option maxHeartbeats 2000000 in
theorem l2Copy_n0 (id : ByteArray) (k : Int) (b off cap : Nat) (ps : List (Int × Int)) (c : Option Addr) (ca : Nat) (w : World) (hp : PtsAt w (some ⟨b, off, none⟩) ps) (hl : ps.length ≤ 1048576) (h0 : 0 < ps.length) :
    Calls Tryz.prog 53 #[.agg #[.string id, .int .i64 k, .slice (some ⟨b, off, none⟩) ps.length cap, .slice c 0 ca]] w fun e w' => ∃ ax cx ay cy, e = .returned (.agg #[.string id, .int .i64 k, .slice ax ps.length cx, .slice ay 0 cy]) ∧ (PtsAt w' ax ps ∧ Soft w' ax ps.length ∧ Fresh w w' ax) ∧ Below w.heap.size w w' := by
  have HP := Lib.hid hp
  clear hp
  obtain ⟨i0, hi, hz0, hz1, hz2⟩ := info_parts infoT
  have HI := Lib.hid hi
  have HZ0 := Lib.hid hz0
  have HZ1 := Lib.hid hz1
  have HZ2 := Lib.hid hz2
  clear hi hz0 hz1 hz2
  go_enter Tryz.func53, Tryz.ntmps53
  go_upto_region 1 with (fail)
  obtain ⟨W, hW⟩ : ∃ W, W = ((w.alloc (.cells #[.string id, .int .i64 k, .slice (some ⟨b, off, none⟩) ps.length cap, .slice c 0 ca] 57)).alloc (.cells #[.string ⟨#[]⟩, .int .i64 0, .slice none 0 0, .slice none 0 0] 57)) := ⟨_, rfl⟩
  have B0 : Hid (Below w.heap.size w W) := by rw [hW]; exact ((Below.refl _ _).alloc (Nat.le_refl _) _).alloc (by simp) _
  have hz : Hid (W.heap.size = w.heap.size + 1 + 1) := by show _ = _; rw [hW]; simp
  have SOF : Hid (∀ wy, Kept1 W (w.heap.size + 1) wy → wy.cell? ⟨w.heap.size, 0, none⟩ = some (.string id) ∧ wy.cell? ⟨w.heap.size, 1, none⟩ = some (.int .i64 k) ∧ wy.cell? ⟨w.heap.size, 2, none⟩ = some (.slice (some ⟨b, off, none⟩) ps.length cap) ∧ wy.cell? ⟨w.heap.size, 3, none⟩ = some (.slice c 0 ca) ∧ wy.cell? ⟨(w.heap.size + 1), 0, none⟩ = some (cellOf wy (w.heap.size + 1) 0) ∧ wy.cell? ⟨(w.heap.size + 1), 1, none⟩ = some (cellOf wy (w.heap.size + 1) 1) ∧ wy.cell? ⟨(w.heap.size + 1), 2, none⟩ = some (cellOf wy (w.heap.size + 1) 2) ∧ wy.cell? ⟨(w.heap.size + 1), 3, none⟩ = some (cellOf wy (w.heap.size + 1) 3) ∧ wy.frozen? ⟨(w.heap.size + 1), 0, none⟩ = false ∧ wy.frozen? ⟨(w.heap.size + 1), 1, none⟩ = false ∧ wy.frozen? ⟨(w.heap.size + 1), 2, none⟩ = false ∧ wy.frozen? ⟨(w.heap.size + 1), 3, none⟩ = false ∧ Kept1 W (w.heap.size + 1) wy) := by
    intro wy hb
    have hz := hz.out
    have hc : ∀ o, wy.cell? ⟨w.heap.size, o, none⟩ = W.cell? ⟨w.heap.size, o, none⟩ := fun o => hb.grown.cell_far ⟨w.heap.size, o, none⟩ (by show w.heap.size < _; omega) (by simp)
    have hf : ∀ o, wy.frozen? ⟨w.heap.size + 1, o, none⟩ = W.frozen? ⟨w.heap.size + 1, o, none⟩ := fun o => hb.soft _ (by show w.heap.size + 1 < _; omega)
    refine ⟨?_, ?_, ?_, ?_, cellOf_some (hb.some _ ?_), cellOf_some (hb.some _ ?_), cellOf_some (hb.some _ ?_), cellOf_some (hb.some _ ?_), ?_, ?_, ?_, ?_, hb⟩
    all_goals first | rw [hc, hW] | rw [hf, hW] | rw [hW]
    all_goals simp [go_sem]
  have zR : Hid (w.heap.size + 1 < W.heap.size) := by have := hz.out; show _ < _; omega
  have H4 : Hid (∀ i, i < 4 → (W.cell? ⟨w.heap.size + 1, i, none⟩).isSome = true) := by
    intro i hi
    rw [hW]
    rcases (show i = 0 ∨ i = 1 ∨ i = 2 ∨ i = 3 by omega) with rfl | rfl | rfl | rfl <;> simp [go_sem]
  rw [← hW]
  have m1 : ¬ w.heap.size = W.heap.size := by have := hz.out; omega
  have m2 : ¬ w.heap.size + 1 = W.heap.size := by have := hz.out; omega
  clear hW
  go_cut [12] (fun s12 wx => ∃ ax cx ay cy, Box4 wx (w.heap.size + 1) (.string id) (.int .i64 k) (.slice ax ps.length cx) (.slice ay 0 cy) ∧ PtsAt wx ax ps ∧ Soft wx ax ps.length ∧ (∀ x, blk ax = some x → w.heap.size + 1 < x ∧ x < wx.heap.size) ∧ Below w.heap.size w wx)
  case first =>
    go_region_held3 (fun wy => wy.cell? ⟨w.heap.size, 0, none⟩ = some (.string id) ∧ wy.cell? ⟨w.heap.size, 1, none⟩ = some (.int .i64 k) ∧ wy.cell? ⟨w.heap.size, 2, none⟩ = some (.slice (some ⟨b, off, none⟩) ps.length cap) ∧ wy.cell? ⟨w.heap.size, 3, none⟩ = some (.slice c 0 ca) ∧ wy.cell? ⟨(w.heap.size + 1), 0, none⟩ = some (cellOf wy (w.heap.size + 1) 0) ∧ wy.cell? ⟨(w.heap.size + 1), 1, none⟩ = some (cellOf wy (w.heap.size + 1) 1) ∧ wy.cell? ⟨(w.heap.size + 1), 2, none⟩ = some (cellOf wy (w.heap.size + 1) 2) ∧ wy.cell? ⟨(w.heap.size + 1), 3, none⟩ = some (cellOf wy (w.heap.size + 1) 3) ∧ wy.frozen? ⟨(w.heap.size + 1), 0, none⟩ = false ∧ wy.frozen? ⟨(w.heap.size + 1), 1, none⟩ = false ∧ wy.frozen? ⟨(w.heap.size + 1), 2, none⟩ = false ∧ wy.frozen? ⟨(w.heap.size + 1), 3, none⟩ = false ∧ Kept1 W (w.heap.size + 1) wy)
      (first
        | assumption
        | with_reducible exact SOF.out _ (Kept1.refl zR.out).drew
        | (go_split_ands
           rename_i hS
           with_reducible exact SOF.out _ (hS.below hbn))
        | (go_split_ands
           rename_i hS
           first | with_reducible exact SOF.out _ ((Kept1.refl zR.out).alloc _).drew | exact SOF.out _ (hS.alloc _))
        | (go_split_ands
           rename_i hS
           with_reducible exact SOF.out _ ((((hS.set _ _).set _ _).set _ _).set _ _)))
      (first
        | (go_at_call 79
           refine (l1Copy_any k b off cap ps _ ?_ hl h0).mono ?_
           · (go_split_ands; rename_i hS; exact HP.out.below (hS.under B0.out))
           rintro e wn ⟨g, cap2, rfl, hpt, hso, hg, hglt, hbn⟩
           first | have hk := keptA hbn zR.out | have hk := keptB hbn zR.out | skip)
        | (refine step_append0 _ (by rfl) _ _ _ (by rfl) 107 i0 Tryz.underlying55 HI.out _ _ _ (by rfl) (by rfl) ?_))
    all_goals (go_wp2_with fail; go_meet; first | ((with_reducible refine ⟨_, _, _, _, hk.box H4.out, ?_⟩); exact ⟨(PP2 (V := (W.alloc _).drew) hpt hso hg hglt (.inl (szA hz.out))).1, (PP2 (V := (W.alloc _).drew) hpt hso hg hglt (.inl (szA hz.out))).2.1, (PP2 (V := (W.alloc _).drew) hpt hso hg hglt (.inl (szA hz.out))).2.2, ((((hk.set _ _).set _ _).set _ _).set _ _).under B0.out⟩) | ((with_reducible refine ⟨_, _, _, _, (hk.alloc _).box H4.out, ?_⟩); exact ⟨(PP2 (V := W) (hpt.below (aBelow wn _)) (hso.below hpt (aBelow wn _)) hg (Nat.lt_of_lt_of_le hglt (aBelow wn _).size) (.inr hz.out)).1, (PP2 (V := W) (hpt.below (aBelow wn _)) (hso.below hpt (aBelow wn _)) hg (Nat.lt_of_lt_of_le hglt (aBelow wn _).size) (.inr hz.out)).2.1, (PP2 (V := W) (hpt.below (aBelow wn _)) (hso.below hpt (aBelow wn _)) hg (Nat.lt_of_lt_of_le hglt (aBelow wn _).size) (.inr hz.out)).2.2, (((((hk.alloc _).set _ _).set _ _).set _ _).set _ _).under B0.out⟩))
  case rest =>
    obtain ⟨ax, cx, ay, cy, ⟨r0, r1, r2, r3⟩, hQ1, hQ2, hQ3, hB⟩ := hcut
    have B := Lib.hid hB
    have Q1 := Lib.hid hQ1
    have Q2 := Lib.hid hQ2
    have Q3 := Lib.hid hQ3
    clear hQ1 hQ2 hQ3
    clear hB
    go_wp2
    refine bodyPost_ret (v := .agg #[.string id, .int .i64 k, .slice ax ps.length cx, .slice ay 0 cy]) (by simp [results, Tryz.results53, go_sem, r0, r1, r2, r3]) rfl ?_
    exact ⟨ax, cx, ay, cy, rfl, ⟨Q1.out, Q2.out, fun x e => ⟨by have := (Q3.out x e).1; omega, (Q3.out x e).2⟩⟩, B.out⟩

end Go.Proofs.YtelimcknhaflfaaGreat

namespace Go.Proofs.YtelimcknhaflfaaGreat
set_option linter.unusedVariables false
open Go.ChangeShapes Go.WideShapes Go.ChangeAt Go.RowKit Go.Deep

set_option maxRecDepth 100000 in
set_option maxHeartbeats 2000000 in
theorem l2Copy_00 (id : ByteArray) (k : Int) (a : Option Addr) (cap : Nat) (c : Option Addr) (ca : Nat) (w : World) :
    Calls Tryz.prog 53 #[.agg #[.string id, .int .i64 k, .slice a 0 cap, .slice c 0 ca]] w fun e w' => ∃ ax cx ay cy, e = .returned (.agg #[.string id, .int .i64 k, .slice ax 0 cx, .slice ay 0 cy]) ∧ Below w.heap.size w w' := by
  obtain ⟨i0, hi, hz0, hz1, hz2⟩ := info_parts infoT
  have HI := Lib.hid hi
  have HZ0 := Lib.hid hz0
  have HZ1 := Lib.hid hz1
  have HZ2 := Lib.hid hz2
  clear hi hz0 hz1 hz2
  go_enter Tryz.func53, Tryz.ntmps53
  go_upto_region 1 with (fail)
  obtain ⟨W, hW⟩ : ∃ W, W = ((w.alloc (.cells #[.string id, .int .i64 k, .slice a 0 cap, .slice c 0 ca] 57)).alloc (.cells #[.string ⟨#[]⟩, .int .i64 0, .slice none 0 0, .slice none 0 0] 57)) := ⟨_, rfl⟩
  have B0 : Hid (Below w.heap.size w W) := by rw [hW]; exact ((Below.refl _ _).alloc (Nat.le_refl _) _).alloc (by simp) _
  have hz : Hid (W.heap.size = w.heap.size + 1 + 1) := by show _ = _; rw [hW]; simp
  have SOF : Hid (∀ wy, Kept1 W (w.heap.size + 1) wy → wy.cell? ⟨w.heap.size, 0, none⟩ = some (.string id) ∧ wy.cell? ⟨w.heap.size, 1, none⟩ = some (.int .i64 k) ∧ wy.cell? ⟨w.heap.size, 2, none⟩ = some (.slice a 0 cap) ∧ wy.cell? ⟨w.heap.size, 3, none⟩ = some (.slice c 0 ca) ∧ wy.cell? ⟨(w.heap.size + 1), 0, none⟩ = some (cellOf wy (w.heap.size + 1) 0) ∧ wy.cell? ⟨(w.heap.size + 1), 1, none⟩ = some (cellOf wy (w.heap.size + 1) 1) ∧ wy.cell? ⟨(w.heap.size + 1), 2, none⟩ = some (cellOf wy (w.heap.size + 1) 2) ∧ wy.cell? ⟨(w.heap.size + 1), 3, none⟩ = some (cellOf wy (w.heap.size + 1) 3) ∧ wy.frozen? ⟨(w.heap.size + 1), 0, none⟩ = false ∧ wy.frozen? ⟨(w.heap.size + 1), 1, none⟩ = false ∧ wy.frozen? ⟨(w.heap.size + 1), 2, none⟩ = false ∧ wy.frozen? ⟨(w.heap.size + 1), 3, none⟩ = false ∧ Kept1 W (w.heap.size + 1) wy) := by
    intro wy hb
    have hz := hz.out
    have hc : ∀ o, wy.cell? ⟨w.heap.size, o, none⟩ = W.cell? ⟨w.heap.size, o, none⟩ := fun o => hb.grown.cell_far ⟨w.heap.size, o, none⟩ (by show w.heap.size < _; omega) (by simp)
    have hf : ∀ o, wy.frozen? ⟨w.heap.size + 1, o, none⟩ = W.frozen? ⟨w.heap.size + 1, o, none⟩ := fun o => hb.soft _ (by show w.heap.size + 1 < _; omega)
    refine ⟨?_, ?_, ?_, ?_, cellOf_some (hb.some _ ?_), cellOf_some (hb.some _ ?_), cellOf_some (hb.some _ ?_), cellOf_some (hb.some _ ?_), ?_, ?_, ?_, ?_, hb⟩
    all_goals first | rw [hc, hW] | rw [hf, hW] | rw [hW]
    all_goals simp [go_sem]
  have zR : Hid (w.heap.size + 1 < W.heap.size) := by have := hz.out; show _ < _; omega
  have H4 : Hid (∀ i, i < 4 → (W.cell? ⟨w.heap.size + 1, i, none⟩).isSome = true) := by
    intro i hi
    rw [hW]
    rcases (show i = 0 ∨ i = 1 ∨ i = 2 ∨ i = 3 by omega) with rfl | rfl | rfl | rfl <;> simp [go_sem]
  rw [← hW]
  have m1 : ¬ w.heap.size = W.heap.size := by have := hz.out; omega
  have m2 : ¬ w.heap.size + 1 = W.heap.size := by have := hz.out; omega
  clear hW
  go_cut [12] (fun s12 wx => ∃ ax cx ay cy, Box4 wx (w.heap.size + 1) (.string id) (.int .i64 k) (.slice ax 0 cx) (.slice ay 0 cy) ∧ Below w.heap.size w wx)
  case first =>
    go_region_held3 (fun wy => wy.cell? ⟨w.heap.size, 0, none⟩ = some (.string id) ∧ wy.cell? ⟨w.heap.size, 1, none⟩ = some (.int .i64 k) ∧ wy.cell? ⟨w.heap.size, 2, none⟩ = some (.slice a 0 cap) ∧ wy.cell? ⟨w.heap.size, 3, none⟩ = some (.slice c 0 ca) ∧ wy.cell? ⟨(w.heap.size + 1), 0, none⟩ = some (cellOf wy (w.heap.size + 1) 0) ∧ wy.cell? ⟨(w.heap.size + 1), 1, none⟩ = some (cellOf wy (w.heap.size + 1) 1) ∧ wy.cell? ⟨(w.heap.size + 1), 2, none⟩ = some (cellOf wy (w.heap.size + 1) 2) ∧ wy.cell? ⟨(w.heap.size + 1), 3, none⟩ = some (cellOf wy (w.heap.size + 1) 3) ∧ wy.frozen? ⟨(w.heap.size + 1), 0, none⟩ = false ∧ wy.frozen? ⟨(w.heap.size + 1), 1, none⟩ = false ∧ wy.frozen? ⟨(w.heap.size + 1), 2, none⟩ = false ∧ wy.frozen? ⟨(w.heap.size + 1), 3, none⟩ = false ∧ Kept1 W (w.heap.size + 1) wy)
      (first
        | assumption
        | with_reducible exact SOF.out _ (Kept1.refl zR.out).drew
        | (go_split_ands
           rename_i hS
           with_reducible exact SOF.out _ (hS.below hbn))
        | (go_split_ands
           rename_i hS
           first | with_reducible exact SOF.out _ ((Kept1.refl zR.out).alloc _).drew | exact SOF.out _ (hS.alloc _))
        | (go_split_ands
           rename_i hS
           with_reducible exact SOF.out _ ((((hS.set _ _).set _ _).set _ _).set _ _)))
      (first
        | (go_at_call 79
           refine (l1Copy_nil k a cap _).mono ?_
           rintro e wn ⟨g, rfl, hbn⟩
           first | have hk := keptA hbn zR.out | have hk := keptB hbn zR.out | skip)
        | (refine step_append0 _ (by rfl) _ _ _ (by rfl) 107 i0 Tryz.underlying55 HI.out _ _ _ (by rfl) (by rfl) ?_))
    all_goals (go_wp2_with fail; go_meet; first | ((with_reducible refine ⟨_, _, _, _, hk.box H4.out, ?_⟩); exact ((((hk.set _ _).set _ _).set _ _).set _ _).under B0.out) | ((with_reducible refine ⟨_, _, _, _, (hk.alloc _).box H4.out, ?_⟩); exact (((((hk.alloc _).set _ _).set _ _).set _ _).set _ _).under B0.out))
  case rest =>
    obtain ⟨ax, cx, ay, cy, ⟨r0, r1, r2, r3⟩, hB⟩ := hcut
    have B := Lib.hid hB
    clear hB
    go_wp2
    refine bodyPost_ret (v := .agg #[.string id, .int .i64 k, .slice ax 0 cx, .slice ay 0 cy]) (by simp [results, Tryz.results53, go_sem, r0, r1, r2, r3]) rfl ?_
    exact ⟨ax, cx, ay, cy, rfl, B.out⟩
end Go.Proofs.YtelimcknhaflfaaGreat

namespace Go.Proofs.YtelimcknhaflfaaGreat
set_option linter.unusedVariables false
open Go.ChangeShapes Go.WideShapes Go.ChangeAt Go.RowKit Go.Deep

/-- is there such a thing -/
def getHas (fs : List Ft) (id : ByteArray) : Bool := sheetOk fs && decide (firstF fs id < fs.length)
/-- the thing of a name -/
def getFt (fs : List Ft) (id : ByteArray) : Ft := if getHas fs id then fg fs (firstF fs id) else (⟨#[]⟩, 0, [], [])

/-- a value is a thing that lies between these blocks -/
def Got (lo hi : Nat) (w : World) (v : Value) (f : Ft) : Prop :=
  ∃ ax cx ay cy, v = .agg #[.string f.1, .int .i64 f.2.1, .slice ax f.2.2.1.length cx, .slice ay f.2.2.2.length cy] ∧ PtsAt w ax f.2.2.1 ∧ TagsAt w ay f.2.2.2 ∧ (f.2.2.1.length = 0 ∨ ∀ x, blk ax = some x → lo ≤ x ∧ x < hi) ∧ (f.2.2.2.length = 0 ∨ ∀ x, blk ay = some x → lo ≤ x ∧ x < hi)

theorem Got.turned {lo hi : Nat} {w w' : World} {v : Value} {f : Ft} {S : Nat → Prop} (h : Got lo hi w v f) (ht : Turned w w' S) (hS : ∀ x, lo ≤ x → x < hi → ¬ S x) : Got lo hi w' v f := by
  obtain ⟨ax, cx, ay, cy, h1, h2, h3, h4, h5⟩ := h
  refine ⟨ax, cx, ay, cy, h1, ?_, ?_, h4, h5⟩
  · rcases h4 with h | h
    · exact fun i hi => absurd hi (by omega)
    · exact h2.turned ht fun x hx => hS x (h x hx).1 (h x hx).2
  · rcases h5 with h | h
    · exact fun i hi => absurd hi (by omega)
    · exact h3.turned ht fun x hx => hS x (h x hx).1 (h x hx).2

theorem Got.below {lo hi : Nat} {w w' : World} {v : Value} {f : Ft} (h : Got lo hi w v f) (hb : Below w.heap.size w w') : Got lo hi w' v f := h.turned (S := fun _ => False) (Turned.of_below hb) fun _ _ _ h => h

theorem Got.nothing (lo hi : Nat) (w : World) : Got lo hi w (.agg #[.string ⟨#[]⟩, .int .i64 0, .slice none 0 0, .slice none 0 0]) (⟨#[]⟩, 0, [], []) :=
  ⟨none, 0, none, 0, rfl, PtsAt.nil _ _, TagsAt.nil _ _, .inl rfl, .inl rfl⟩

theorem good_ok {fs : List Ft} (h : sheetOk fs = true) {i : Nat} (hi : i < fs.length) : ftOk fs i = true := by
  simp [sheetOk] at h
  have := featsGood_at h.1 hi
  simp [featGood] at this
  exact this.1

theorem ftOk_pts {fs : List Ft} {i : Nat} (h : ftOk fs i = true) : 0 < (fps fs i).length := by
  unfold ftOk featOk at h
  simp only [Bool.and_eq_true] at h
  have h2 := h.1.2
  unfold shapeOk at h2
  simp only [Bool.and_eq_true] at h2
  have h3 := h2.1.2
  unfold kindHolds at h3
  split at h3
  · simp at h3; omega
  · split at h3
    · simp at h3; omega
    · split at h3
      · simp at h3; omega
      · simp at h3

theorem Got.mono {lo hi lo' hi' : Nat} {w : World} {v : Value} {f : Ft} (h : Got lo hi w v f) (h1 : lo' ≤ lo) (h2 : hi ≤ hi') : Got lo' hi' w v f := by
  obtain ⟨ax, cx, ay, cy, q1, q2, q3, q4, q5⟩ := h
  exact ⟨ax, cx, ay, cy, q1, q2, q3, q4.imp id fun h x hx => ⟨Nat.le_trans h1 (h x hx).1, Nat.lt_of_lt_of_le (h x hx).2 h2⟩, q5.imp id fun h x hx => ⟨Nat.le_trans h1 (h x hx).1, Nat.lt_of_lt_of_le (h x hx).2 h2⟩⟩

/-- four stores into a box -/
theorem turned4 (w : World) (r : Nat) (x0 x1 x2 x3 : Value) : Turned w ((((w.setCell ⟨r, 0, none⟩ x0).setCell ⟨r, 1, none⟩ x1).setCell ⟨r, 2, none⟩ x2).setCell ⟨r, 3, none⟩ x3) (fun x => x = r) :=
  (((Turned.of_set (S := fun x => x = r) w _ _ rfl).trans (Turned.of_set _ _ _ rfl)).trans (Turned.of_set _ _ _ rfl)).trans (Turned.of_set _ _ _ rfl)

theorem FeatAns.got {w w' : World} {id : ByteArray} {k : Int} {ps : List (Int × Int)} {ts : List Tg} {v : Value} (h : FeatAns w id k ps ts v w') : Got w.heap.size w'.heap.size w' v (id, k, ps, ts) ∧ Below w.heap.size w w' := by
  obtain ⟨a, cap, c, ca, h1, h2, _, h4, h5, _, h7, _, h9⟩ := h
  exact ⟨⟨a, cap, c, ca, h1, h2, h5, .inr h4, .inr h7⟩, h9⟩

set_option maxHeartbeats 2000000 in
theorem l2Copy_got (id : ByteArray) (k : Int) (a : Option Addr) (cap : Nat) (ps : List (Int × Int)) (c : Option Addr) (ca : Nat) (ts : List Tg) (w : World) (hp : PtsAt w a ps) (ht : TagsAt w c ts) (hl : ps.length ≤ 1048576) (h0 : 0 < ps.length) (hm : ts.length ≤ 1048576) :
    Calls Tryz.prog 53 #[.agg #[.string id, .int .i64 k, .slice a ps.length cap, .slice c ts.length ca]] w fun e w' => (∃ v, e = .returned v ∧ Got w.heap.size w'.heap.size w' v (id, k, ps, ts)) ∧ Below w.heap.size w w' := by
  obtain ⟨b, off, rfl, _⟩ := hp 0 h0
  by_cases h1 : 0 < ts.length
  · obtain ⟨b2, off2, rfl, _⟩ := ht 0 h1
    refine (l2Copy_any id k b off cap ps b2 off2 ca ts w hp ht hl h0 hm h1).mono ?_
    rintro e w' ⟨v, rfl, h⟩
    exact ⟨⟨v, rfl, h.got.1⟩, h.got.2⟩
  · obtain rfl : ts = [] := List.eq_nil_of_length_eq_zero (by omega)
    refine (l2Copy_n0 id k b off cap ps c ca w hp hl h0).mono ?_
    rintro e w' ⟨ax, cx, ay, cy, rfl, ⟨q1, _, q3⟩, hb⟩
    exact ⟨⟨_, rfl, ax, cx, ay, cy, rfl, q1, TagsAt.nil _ _, .inr q3, .inl rfl⟩, hb⟩

end Go.Proofs.YtelimcknhaflfaaGreat

namespace Go.Proofs.YtelimcknhaflfaaGreat
set_option linter.unusedVariables false
open Go.ChangeShapes Go.WideShapes Go.ChangeAt Go.RowKit Go.Deep Go.Maps

theorem ent_get {w : World} {es : List En} {fs : List Ft} (h : Ents w es fs) {i : Nat} (hi : i < fs.length) : es[i]'(by rw [h.1]; exact hi) = (fid fs i, ev es i) := by
  have h1 := (h.2 i hi).1
  have hi' : i < es.length := by rw [h.1]; exact hi
  rw [← h1]
  simp [ek, ev, hi']

theorem nothing_feat {w w1 : World} {r : Nat} {x0 x1 x2 x3 : Value} (hw : Below w.heap.size w w1) (hr : w.heap.size ≤ r) :
    FeatAns w ⟨#[]⟩ 0 [] [] (.agg #[.string ⟨#[]⟩, .int .i64 0, .slice none 0 0, .slice none 0 0]) ((((w1.setCell ⟨r, 0, none⟩ x0).setCell ⟨r, 1, none⟩ x1).setCell ⟨r, 2, none⟩ x2).setCell ⟨r, 3, none⟩ x3) :=
  ⟨none, 0, none, 0, rfl, PtsAt.nil _ _, fun i hi => absurd hi (Nat.not_lt_zero _), fun x h => by simp [blk] at h, TagsAt.nil _ _, fun i hi => absurd hi (Nat.not_lt_zero _), fun x h => by simp [blk] at h, fun x h => by simp [blk] at h, (((hw.setCell hr _).setCell hr _).setCell hr _).setCell hr _⟩

theorem ok_tells {w0 : World} {es : List En} {fs : List Ft} (he : Ents w0 es fs) (hok : sheetOk fs = true) : TellsF (mapF es) es := by
  have h := tellsF_mapF es
  rw [toldF_asc (ascF_of_good he (by simp [sheetOk] at hok; exact hok.1))] at h
  exact h

/-- a look-up of a name that is there -/
theorem look_hit {w0 w : World} {b n : Nat} {es : List En} {fs : List Ft} (hown : w.ownsMap Tryz.prog 9 heldElem b n (mapF es)) (he : Ents w0 es fs) (hok : sheetOk fs = true) {i : Nat} (hi : i < fs.length) (hl : (fid fs i).size ≤ maxLen) :
    (Instr.lookup 62 (.map (some b)) (.string (fid fs i)) true).run Tryz.prog w = .ok (.tuple #[ev es i, .bool true]) w := by
  have hz : (zeroValue 57).run Tryz.prog w = .ok (.agg #[.string .empty, .int .i64 0, .slice none 0 0, .slice none 0 0]) w := by kernel_rfl
  obtain ⟨v, ps, hrun, hv⟩ := hown.look_ok keyT Tryz.underlying62 hz (zd := .held (.agg #[.string .empty, .int .i64 0, .slice none 0 0, .slice none 0 0])) (zp := []) rfl (Go.WideMaps.keyOf_string_mk Tryz.underlying9 hl)
  simp only [heldElem, Option.some.injEq, Prod.mk.injEq] at hv
  have hm : ((fid fs i, ev es i) : En) ∈ es := by rw [← ent_get he hi]; exact List.getElem_mem _
  have h1 := (ok_tells he hok).at_ _ hm
  have hh : Maps.has (mapF es) (.string (fid fs i).data.toList) = true := has_true_of_atKey h1
  have h3 := hv.1
  rw [show (mapF es).atKey (.string (fid fs i).data.toList) _ = .held (ev es i) from h1 _] at h3
  rw [hrun, DataW.held.inj h3, hh]

/-- a look-up of a name that is not there -/
theorem look_miss {w0 w : World} {b n : Nat} {es : List En} {fs : List Ft} {id : ByteArray} (hown : w.ownsMap Tryz.prog 9 heldElem b n (mapF es)) (he : Ents w0 es fs) (hno : ∀ j, j < fs.length → fid fs j ≠ id) (hl : id.size ≤ maxLen) :
    (Instr.lookup 62 (.map (some b)) (.string id) true).run Tryz.prog w = .ok (.tuple #[.agg #[.string .empty, .int .i64 0, .slice none 0 0, .slice none 0 0], .bool false]) w := by
  have hz : (zeroValue 57).run Tryz.prog w = .ok (.agg #[.string .empty, .int .i64 0, .slice none 0 0, .slice none 0 0]) w := by kernel_rfl
  obtain ⟨v, ps, hrun, hv⟩ := hown.look_ok keyT Tryz.underlying62 hz (zd := .held (.agg #[.string .empty, .int .i64 0, .slice none 0 0, .slice none 0 0])) (zp := []) rfl (Go.WideMaps.keyOf_string_mk Tryz.underlying9 hl)
  simp only [heldElem, Option.some.injEq, Prod.mk.injEq] at hv
  have hn : Maps.has (mapF es) (.string id.data.toList) = false := by
    cases hh : Maps.has (mapF es) (.string id.data.toList)
    · rfl
    · obtain ⟨t, h1, h2⟩ := (tellsF_mapF es).has _ hh
      obtain ⟨j, hj, e⟩ := List.getElem_of_mem (toldF_mem h1)
      have hj' : j < fs.length := by rw [← he.1]; exact hj
      rw [ent_get he hj'] at e
      refine absurd ?_ (hno j hj')
      rw [← toList_inj, ByteArray.toList_eq, ByteArray.toList_eq, ← h2, ← e]
      rfl
  have h3 := hv.1
  rw [atKey_of_not_has hn] at h3
  rw [hrun, DataW.held.inj h3, hn]

theorem FeatAns.close {w u w3 : World} {id : ByteArray} {k : Int} {ps : List (Int × Int)} {ts : List Tg} {v : Value} {r : Nat} (h : FeatAns u id k ps ts v w3) (hu : Below w.heap.size w u) (hr : w.heap.size ≤ r) (hr' : r < u.heap.size) (x0 x1 x2 x3 : Value) :
    FeatAns w id k ps ts v ((((w3.setCell ⟨r, 0, none⟩ x0).setCell ⟨r, 1, none⟩ x1).setCell ⟨r, 2, none⟩ x2).setCell ⟨r, 3, none⟩ x3) := by
  obtain ⟨a, cap, c, ca, h1, h2, h3, h4, h5, h6, h7, h8, h9⟩ := h
  have na : blk a ≠ some r := fun e => by have := (h4 _ e).1; omega
  have nc : blk c ≠ some r := fun e => by have := (h7 _ e).1; omega
  have hs := hu.size
  exact ⟨a, cap, c, ca, h1, (((h2.set na).set na).set na).set na, (((h3.set _ _).set _ _).set _ _).set _ _, fun x e => ⟨by have := (h4 x e).1; omega, by have := (h4 x e).2; simpa [World.setCell] using this⟩, (((h5.set nc).set nc).set nc).set nc, (((h6.set _ _).set _ _).set _ _).set _ _, fun x e => ⟨by have := (h7 x e).1; omega, by have := (h7 x e).2; simpa [World.setCell] using this⟩, h8, ((((hu.trans (h9.mono hs)).setCell hr _).setCell hr _).setCell hr _).setCell hr _⟩

theorem firstF_none {fs : List Ft} {id : ByteArray} (h : ¬ firstF fs id < fs.length) : ∀ j, j < fs.length → fid fs j ≠ id := by
  intro j hj e
  refine h ?_
  unfold firstF
  exact List.findIdx_lt_length_of_exists ⟨fs[j], List.getElem_mem hj, by simp [fid_get hj, e]⟩

end Go.Proofs.YtelimcknhaflfaaGreat

namespace Go.Proofs.YtelimcknhaflfaaGreat
set_option linter.unusedVariables false
open Go.ChangeShapes Go.WideShapes Go.ChangeAt Go.RowKit Go.Deep

/-- the blocks of a thing's parts -/
def inPart (p : Pl) (x : Nat) : Prop := blk p.1.1 = some x ∨ blk p.2.1 = some x

/-- a list that is being built -/
structure Built (w : World) (lo : Nat) (v : Value) (k : Nat) (fs : List Ft) (ad : Nat → Pl) : Prop where
  row : w.ownsRow lo 57 4 v k (flatF fs ad k)
  pts : ∀ i, i < k → PtsAt w (ad i).1.1 (fps fs i) ∧ Soft w (ad i).1.1 (fps fs i).length
  tags : ∀ i, i < k → TagsAt w (ad i).2.1 (fts fs i) ∧ Soft w (ad i).2.1 (fts fs i).length
  rng : ∀ i, i < k → ∀ x, inPart (ad i) x → lo ≤ x ∧ x < w.heap.size ∧ v.ownBlock ≠ some x
  two : ∀ i, i < k → Apart (ad i).1.1 (ad i).2.1
  far : ∀ i j, i < j → j < k → ∀ x, inPart (ad i) x → ¬ inPart (ad j) x

theorem built_none (w : World) (lo : Nat) (fs : List Ft) (ad : Nat → Pl) : Built w lo (.slice none 0 0) 0 fs ad :=
  ⟨World.ownsRow_nil _ _ _ _, fun _ h => absurd h (Nat.not_lt_zero _), fun _ h => absurd h (Nat.not_lt_zero _), fun _ h => absurd h (Nat.not_lt_zero _), fun _ h => absurd h (Nat.not_lt_zero _), fun _ _ _ h => absurd h (Nat.not_lt_zero _)⟩

theorem Built.below {w w' : World} {lo : Nat} {v : Value} {k : Nat} {fs : List Ft} {ad : Nat → Pl} (h : Built w lo v k fs ad) (hb : Below w.heap.size w w') : Built w' lo v k fs ad :=
  ⟨ownsRow_below h.row hb, fun i hi => ⟨(h.pts i hi).1.below hb, (h.pts i hi).2.below (h.pts i hi).1 hb⟩, fun i hi => ⟨(h.tags i hi).1.below hb, (h.tags i hi).2.belowT (h.tags i hi).1 hb⟩, fun i hi x hx => ⟨(h.rng i hi x hx).1, Nat.lt_of_lt_of_le (h.rng i hi x hx).2.1 hb.size, (h.rng i hi x hx).2.2⟩, h.two, h.far⟩

/-- one more thing, appended -/
theorem Built.step {wr w3 wb wa : World} {lo : Nat} {v : Value} {k : Nat} {fs : List Ft} {ad : Nat → Pl} {p : Pl} {gg cap' : Nat} (h : Built wr lo v k fs ad) (hlo : lo ≤ wr.heap.size) (hb : Below wr.heap.size wr w3) (h3 : Below w3.heap.size w3 wb) (hz : wb.heap.size = w3.heap.size + 1)
    (hp : PtsAt w3 p.1.1 (fps fs k)) (hps : Soft w3 p.1.1 (fps fs k).length) (hpf : Fresh wr w3 p.1.1) (ht : TagsAt w3 p.2.1 (fts fs k)) (hts : Soft w3 p.2.1 (fts fs k).length) (htf : Fresh wr w3 p.2.1) (hap : Apart p.1.1 p.2.1)
    (hrow : wa.ownsRow lo 57 4 (.slice (some ⟨gg, 0, none⟩) (k + 1) cap') (k + 1) (flatF fs ad k ++ cellsF (fg fs k) p)) (hg : wb.grownBy wa v.ownBlock) (hat : v.ownBlock = some gg ∨ gg = w3.heap.size + 1) :
    Built wa lo (.slice (some ⟨gg, 0, none⟩) (k + 1) cap') (k + 1) fs (plSet ad k p) := by
  have hbb : Below wr.heap.size wr wb := hb.trans (h3.mono hb.size)
  have hB := h.below hbb
  have hvl : ∀ x, v.ownBlock = some x → x < wr.heap.size := fun x hx => (h.row.lt x hx).2
  have ht' : Turned wb wa (fun x => v.ownBlock = some x) := Turned.of_grown hg fun x hx => hx
  have hwz := hg.size
  have hfr : ∀ x, inPart p x → wr.heap.size ≤ x ∧ x < w3.heap.size := fun x hx => hx.elim (hpf x) (htf x)
  have hs3 := hb.size
  have nv : ∀ x, inPart p x → ¬ v.ownBlock = some x := fun x hx e => by have h1 := (hfr x hx).1; have h2 := hvl x e; omega
  have gne : ∀ x, x < w3.heap.size → ¬ v.ownBlock = some x → gg ≠ x := fun x hx hn e => by
    rcases hat with h1 | h1
    · exact hn (by rw [h1, e])
    · omega
  have own' : ∀ x, (Value.slice (some ⟨gg, 0, none⟩) (k + 1) cap').ownBlock = some x → gg = x := fun x hx => by simpa [Value.ownBlock] using hx
  refine ⟨?_, fun i hi => ?_, fun i hi => ?_, fun i hi x hx => ?_, fun i hi => ?_, fun i j hij hj x hx hy => ?_⟩
  · rw [flatF_succ, flatF_set _ _ _ _ _ (Nat.le_refl _), plSet_at]
    exact hrow
  · by_cases e : i = k
    · subst e
      rw [plSet_at]
      have q := hp.below h3
      exact ⟨q.turned ht' fun x hx => nv x (.inl hx), (hps.below hp h3).turnedP q ht' fun x hx => nv x (.inl hx)⟩
    · rw [plSet_lt (by omega)]
      obtain ⟨q1, q2⟩ := hB.pts i (by omega)
      have n : ∀ x, blk (ad i).1.1 = some x → ¬ v.ownBlock = some x := fun x hx e => (h.rng i (by omega) x (.inl hx)).2.2 e
      exact ⟨q1.turned ht' n, q2.turnedP q1 ht' n⟩
  · by_cases e : i = k
    · subst e
      rw [plSet_at]
      have q := ht.below h3
      exact ⟨q.turned ht' fun x hx => nv x (.inr hx), (hts.belowT ht h3).turnedT q ht' fun x hx => nv x (.inr hx)⟩
    · rw [plSet_lt (by omega)]
      obtain ⟨q1, q2⟩ := hB.tags i (by omega)
      have n : ∀ x, blk (ad i).2.1 = some x → ¬ v.ownBlock = some x := fun x hx e => (h.rng i (by omega) x (.inr hx)).2.2 e
      exact ⟨q1.turned ht' n, q2.turnedT q1 ht' n⟩
  · by_cases e : i = k
    · subst e
      rw [plSet_at] at hx
      obtain ⟨q1, q2⟩ := hfr x hx
      exact ⟨by omega, by omega, fun e => gne x q2 (nv x hx) (own' x e)⟩
    · rw [plSet_lt (by omega)] at hx
      obtain ⟨q1, q2, q3⟩ := h.rng i (by omega) x hx
      exact ⟨q1, by omega, fun e => gne x (by omega) q3 (own' x e)⟩
  · by_cases e : i = k
    · subst e
      rw [plSet_at]
      exact hap
    · rw [plSet_lt (by omega)]
      exact h.two i (by omega)
  · rw [plSet_lt (by omega)] at hx
    by_cases e : j = k
    · subst e
      rw [plSet_at] at hy
      have h1 := (hfr x hy).1
      have h2 := (h.rng i (by omega) x hx).2.1
      omega
    · rw [plSet_lt (by omega)] at hy
      exact h.far i j hij (by omega) x hx hy

/-- a built list lies in memory of its own -/
theorem Built.lies {w : World} {lo b cap : Nat} {fs : List Ft} {ad : Nat → Pl} (h : Built w lo (.slice (some ⟨b, 0, none⟩) fs.length cap) fs.length fs ad) : Lies w b 0 fs ad ∧ Sep b fs.length ad ∧ (∀ x, blocksOf b fs.length ad x → lo ≤ x ∧ x < w.heap.size) := by
  obtain ⟨h1, ⟨h2, _⟩ | ⟨g, cap2, cur, e, hb, hg, hc, hm, hs, hx⟩⟩ := h.row
  · simp at h2
  · obtain ⟨rfl, rfl⟩ : b = g ∧ cap = cap2 := by simpa using e
    have hlt : b < w.heap.size := (Array.getElem?_eq_some_iff.1 hg).1
    have cell : ∀ j v, j < fs.length * 4 → (flatF fs ad fs.length)[j]? = some v → w.cell? ⟨b, 0 + j, none⟩ = some v := by
      intro j v hj hv
      rw [← hx, List.getElem?_take, if_pos hj] at hv
      simp only [World.cell?, hg, Option.isSome_none, Bool.false_eq_true, if_false, Nat.zero_add]
      simpa using hv
    refine ⟨⟨fun i hi => ?_, fun i hi => ?_, h.pts, h.tags, hlt⟩, ⟨fun i hi => ?_, h.two, fun i j hi hj hne => ?_⟩, ?_⟩
    · have f := fun o ho => flatF_at fs ad fs.length i o hi ho
      exact ⟨cell _ _ (by omega) (f 0 (by omega)), cell _ _ (by omega) (f 1 (by omega)), cell _ _ (by omega) (f 2 (by omega)), cell _ _ (by omega) (f 3 (by omega))⟩
    · constructor <;> simp [World.frozen?, hg]
    · exact ⟨fun e => (h.rng i hi b (.inl e)).2.2 rfl, fun e => (h.rng i hi b (.inr e)).2.2 rfl⟩
    · have key : ∀ x, inPart (ad i) x → ¬ inPart (ad j) x := by
        rcases Nat.lt_or_gt_of_ne hne with q | q
        · exact h.far i j q hj
        · exact fun x hx hy => h.far j i q hi x hy hx
      exact ⟨fun x hx hy => key x (.inl hx) (.inl hy), fun x hx hy => key x (.inl hx) (.inr hy), fun x hx hy => key x (.inr hx) (.inl hy), fun x hx hy => key x (.inr hx) (.inr hy)⟩
    · rintro x (rfl | ⟨i, hi, e⟩)
      · exact ⟨hb, hlt⟩
      · exact ⟨(h.rng i hi x e).1, (h.rng i hi x e).2.1⟩

end Go.Proofs.YtelimcknhaflfaaGreat

namespace Go.Proofs.YtelimcknhaflfaaGreat
set_option linter.unusedVariables false
open Go.ChangeShapes Go.WideShapes Go.ChangeAt Go.RowKit Go.Deep Go.Maps

/-- what a look-up of a name that is there gives -/
theorem look_heldF {w : World} {b n : Nat} {D : DataW Value} {us : List En} (hown : w.ownsMap Tryz.prog 9 heldElem b n D) (ht : TellsF D us) {i : Nat} (hi : i < us.length) (hl : (ek us i).size ≤ maxLen) :
    (Instr.lookup 62 (.map (some b)) (.string (ek us i)) false).run Tryz.prog w = .ok (ev us i) w := by
  have hz : (zeroValue 57).run Tryz.prog w = .ok (.agg #[.string .empty, .int .i64 0, .slice none 0 0, .slice none 0 0]) w := by kernel_rfl
  obtain ⟨v, ps, hrun, hv⟩ := hown.lookup keyT Tryz.underlying62 hz (zd := .held (.agg #[.string .empty, .int .i64 0, .slice none 0 0, .slice none 0 0])) (zp := []) rfl (Go.WideMaps.keyOf_string_mk Tryz.underlying9 hl)
  have hm : us[i] ∈ us := List.getElem_mem hi
  have e : (ek us i) = us[i].1 := by simp [ek, hi]
  have e2 : (ev us i) = us[i].2 := by simp [ev, hi]
  have h1 := ht.at_ us[i] hm (.held (.agg #[.string .empty, .int .i64 0, .slice none 0 0, .slice none 0 0]))
  rw [e] at hv
  rw [show (DataW.atKey D (.string us[i].1.data.toList) (.held (.agg #[.string .empty, .int .i64 0, .slice none 0 0, .slice none 0 0]))) = .held (entV us[i]) from h1] at hv
  simp only [heldElem, Option.some.injEq, Prod.mk.injEq] at hv
  have h3 := DataW.held.inj hv.1
  rw [hrun, h3, e2]
  rfl

theorem Built.mono {w : World} {lo lo' : Nat} {v : Value} {k : Nat} {fs : List Ft} {ad : Nat → Pl} (h : Built w lo v k fs ad) (hl : lo' ≤ lo) : Built w lo' v k fs ad :=
  ⟨ownsRow_base h.row hl, h.pts, h.tags, fun i hi x hx => ⟨Nat.le_trans hl (h.rng i hi x hx).1, (h.rng i hi x hx).2⟩, h.two, h.far⟩

set_option maxRecDepth 100000 in
set_option maxHeartbeats 4000000 in
theorem featsInOrder_any (b n : Nat) (D : DataW Value) (us : List En) (gs : List Ft) (w : World) (hown : w.ownsMap Tryz.prog 9 heldElem b n D) (ht : TellsF D us) (he : Ents w us gs) (hn : n ≤ 1048577) (hL : FeatsLen gs 1048576) :
    Calls Tryz.prog 48 #[.map (some b)] w fun e w' => (∃ v ad, e = .returned v ∧ Built w' w.heap.size v gs.length gs ad) ∧ gs.length ≤ n ∧ Below w.heap.size w w' := by
  obtain ⟨i0, hi, hz0, hz1, hz2⟩ := info_parts infoF
  have HI := Lib.hid hi
  have HZ0 := Lib.hid hz0
  have HZ1 := Lib.hid hz1
  have HZ2 := Lib.hid hz2
  have HO := Lib.hid hown
  have HT := Lib.hid ht
  have HE := Lib.hid he
  have HL := Lib.hid hL
  have hlen := he.1
  clear hi hz0 hz1 hz2 hown ht he hL
  go_enter Tryz.func48, Tryz.ntmps48
  go_wp2_with fail
  refine (namesInOrder_any b n D us _ HO.out HT.out hn).mono ?_
  rintro e w1 ⟨⟨v1, rfl, hr1⟩, hl1, hb1⟩
  generalize hys : us.map (·.1) = ys at hr1
  have hyl : us.length = ys.length := by rw [← hys, List.length_map]
  have HY : Hid (∀ i, i < gs.length → sx ys i = ek us i) := fun i hi => by
    rw [← hys]
    simp [sx, ek, show i < us.length by omega]
  clear hys
  obtain ⟨a1, cap1, rfl, h1, _⟩ := owned_strs hr1 hyl
  have H1 := Lib.hid h1
  have B1 := Lib.hid hb1
  have O1 := Lib.hid (ownsMap_below HO.out hb1)
  have hsz1 := hb1.size
  clear hr1 h1 hb1 HO
  have hyg : ys.length = gs.length := by omega
  rw [hyg]
  go_wp2
  go_loopw [3, 5, 9] (fun s _ i wr => ∃ (k : Nat) (v : Value) (ad : Nat → Pl), k ≤ gs.length ∧ i = .int .i64 k ∧ v = s ∧ Built wr w1.heap.size v k gs ad ∧ Below w1.heap.size w1 wr) (fun _ _ i _ => gs.length - (intOf i).toNat)
  case atStart => exact ⟨0, _, fun _ => ((none, 0), (none, 0)), Nat.zero_le _, rfl, rfl, built_none _ _ _ _, Below.refl _ _⟩
  case round =>
    obtain ⟨k, v, ad, hk, rfl, rfl, hbu, hbel⟩ := hrel
    have hsz := hbel.size
    have HBu := Lib.hid hbu
    have HB := Lib.hid hbel
    have BW : Hid (Below w.heap.size w wr) := B1.out.trans (hbel.mono hsz1)
    by_cases hlt : k < gs.length
    · obtain ⟨g, off, rfl, hg, hc⟩ := H1.out k (by omega)
      rw [← hbel.cell (p := ⟨g, _, none⟩) hg, HY.out k hlt] at hc
      obtain ⟨l1, l2, l3, _⟩ := HL.out k hlt
      have hek := (HE.out.2 k hlt).1
      have hlk := look_heldF (ownsMap_below O1.out hbel) HT.out (i := k) (by omega) (by rw [hek]; unfold maxLen; omega)
      obtain ⟨pa, pc, ta, tc, hev, hpp, htt⟩ := (HE.out.2 k hlt).2
      rw [hev] at hlk
      have D1 := Lib.hid (hpp.below BW.out)
      have D2 := Lib.hid (htt.below BW.out)
      have hvb : ∀ j, v.ownBlock = some j → w1.heap.size ≤ j ∧ j < wr.heap.size := fun j hj => hbu.row.lt j hj
      have HV := Lib.hid hvb
      clear hbu hbel hpp htt hev hek hvb
      go_wp2_with fail
      refine (featCopy_any _ _ _ _ _ _ _ _ _ D1.out D2.out (by show (fps gs k).length ≤ _; omega) (by show (fts gs k).length ≤ _; omega)).mono ?_
      rintro e w3 ⟨v3, rfl, hg3⟩
      have hb3 := hg3.got.2
      obtain ⟨qa, qc, sa, sc, rfl, q1, q2, q3, q4, q5, q6, q7, _⟩ := hg3
      have E1 := Lib.hid q1
      have E2 := Lib.hid q2
      have E3 := Lib.hid q3
      have E4 := Lib.hid q4
      have E5 := Lib.hid q5
      have E6 := Lib.hid q6
      have E7 := Lib.hid q7
      have B3 := Lib.hid hb3
      have R3 : Hid (w3.ownsRow w1.heap.size 57 4 v k (flatF gs ad k)) := ownsRow_below HBu.out.row hb3
      have hz3 := hb3.size
      have A3 : Hid (∀ o, Below w3.heap.size w3 (w3.alloc o)) := fun o => (Below.refl _ _).alloc (Nat.le_refl _) _
      clear hb3 q1 q2 q3 q4 q5 q6 q7 hlk hc
      go_wp2_with (at_builtin; refine wpList_append_lies _ (by rfl) _ _ _ (by rfl) w1.heap.size 57 i0 _ 4 72 Tryz.underlying26 HI.out HZ0.out HZ1.out HZ2.out rfl (by omega) v k (flatF gs ad k) (by rfl) (R3.out.alloc _) ⟨w3.heap.size, 0, none⟩ 1 1 (cellsF (fg gs k) ((qa, qc), (sa, sc))) (by rfl) (by rfl) (World.news_of_block (cs := #[.string (fg gs k).1, .int .i64 (fg gs k).2.1, .slice qa (fg gs k).2.2.1.length qc, .slice sa (fg gs k).2.2.2.length sc]) (t := 57) (fr := (0, 0)) (heap_alloc_new w3 _)) (by simp [Value.oneCell', cellsF]) (by omega) (by unfold maxLen; omega) (by omega) (by simp; omega) (w3.heap.size + 1) (by simp) ?_; intro gg cap' wa hown1 hgrow hat hlt')
      have HS : Hid (Built wa w1.heap.size (.slice (some ⟨gg, 0, none⟩) (k + 1) cap') (k + 1) gs (plSet ad k ((qa, qc), (sa, sc)))) := HBu.out.step hsz B3.out (A3.out _) (by simp) E1.out E2.out E3.out E4.out E5.out E6.out E7.out hown1 hgrow hat
      have HG := Lib.hid hgrow
      clear hown1 hgrow hat
      go_roundw
      case rel => exact ⟨k + 1, _, _, by omega, by go_num, rfl, HS.out, (HB.out.trans ((B3.out.alloc (by omega) _).mono hsz)).grown HG.out (by simp; omega) (fun j hj => (HV.out j hj).1)⟩
      case measure => simp [intOf]; omega
    · obtain rfl : k = gs.length := by omega
      clear hbu hbel
      go_wp2
      go_ret
      exact ⟨⟨v, ad, rfl, HBu.out.mono hsz1⟩, by omega, BW.out⟩
end Go.Proofs.YtelimcknhaflfaaGreat

namespace Go.Proofs.YtelimcknhaflfaaGreat
set_option linter.unusedVariables false
open Go.ChangeShapes Go.WideShapes Go.ChangeAt Go.RowKit Go.Deep Go.Maps

/-- the things of other names -/
def cutL (fs : List Ft) (id : ByteArray) : List Ft := fs.filter (fun f => decide (f.1 ≠ id))
/-- what a map without a name is -/
def cutR (fs : List Ft) (id : ByteArray) : List Ft := if getHas fs id then cutL fs id else []

theorem ents_cons {w : World} {e : En} {es : List En} {f : Ft} {fs : List Ft} : Ents w (e :: es) (f :: fs) ↔ (e.1 = f.1 ∧ FeatV w e.2 f) ∧ Ents w es fs := by
  constructor
  · rintro ⟨h1, h2⟩
    refine ⟨?_, by simpa using h1, fun i hi => ?_⟩
    · have := h2 0 (by simp)
      simpa [ek, ev, fid, fg] using this
    · have := h2 (i + 1) (by simpa using hi)
      simpa [ek, ev, fid, fg] using this
  · rintro ⟨h0, h1, h2⟩
    refine ⟨by simpa using h1, fun i hi => ?_⟩
    cases i with
    | zero => simpa [ek, ev, fid, fg] using h0
    | succ i =>
      have := h2 i (by simpa using hi)
      simpa [ek, ev, fid, fg] using this

theorem ents_cut {w : World} (id : ByteArray) : ∀ {es : List En} {fs : List Ft}, Ents w es fs → Ents w (cutF es id.data.toList) (cutL fs id)
  | [], [], h => h
  | [], f :: fs, h => absurd h.1 (by simp)
  | e :: es, [], h => absurd h.1 (by simp)
  | e :: es, f :: fs, h => by
    obtain ⟨⟨h1, h2⟩, h3⟩ := ents_cons.1 h
    have ih := ents_cut id h3
    have he : (klF e ≠ id.data.toList) ↔ f.1 ≠ id := by
      unfold klF
      rw [h1]
      constructor
      · intro h e
        exact h (by rw [e])
      · intro h e
        refine h ?_
        rw [← toList_inj, ByteArray.toList_eq, ByteArray.toList_eq]
        exact e
    unfold cutF cutL at ih ⊢
    by_cases hf : f.1 ≠ id
    · rw [List.filter_cons_of_pos (by simpa using he.2 hf), List.filter_cons_of_pos (by simpa using hf)]
      exact ents_cons.2 ⟨⟨h1, h2⟩, ih⟩
    · rw [List.filter_cons_of_neg (by simpa using fun h => hf (he.1 h)), List.filter_cons_of_neg (by simpa using hf)]
      exact ih

theorem cutL_lens {fs : List Ft} {m : Int} (id : ByteArray) (h : FeatsLen fs m) : FeatsLen (cutL fs id) m := featsLen_iff.2 fun f hf => featsLen_iff.1 h f ((List.mem_filter.1 hf).1)
theorem cutL_len (fs : List Ft) (id : ByteArray) : (cutL fs id).length ≤ fs.length := List.length_filter_le _ _

/-- what a function answers that makes a list of things, and says whether -/
def ListAns (w : World) (gs : List Ft) (b : Bool) (e : Ending) (w' : World) : Prop :=
  (∃ v ad, e = .returned (.tuple #[v, .bool b]) ∧ Built w' w.heap.size v gs.length gs ad) ∧ Below w.heap.size w w'

end Go.Proofs.YtelimcknhaflfaaGreat

namespace Go.Proofs.YtelimcknhaflfaaGreat
set_option linter.unusedVariables false
open Go.ChangeShapes Go.WideShapes Go.ChangeAt Go.RowKit Go.Deep

/-- a list whose memory lies between these blocks -/
def GotL (lo hi : Nat) (w : World) (v : Value) (fs : List Ft) : Prop :=
  ∃ a cap, v = .slice a fs.length cap ∧ FeatsAt w a fs ∧ ∀ i, i < fs.length → ∃ b off pa pc ta tc, a = some ⟨b, off, none⟩ ∧ lo ≤ b ∧ b < hi ∧
    w.cell? ⟨b, off + i * 4 + 2, none⟩ = some (.slice pa (fps fs i).length pc) ∧ w.cell? ⟨b, off + i * 4 + 3, none⟩ = some (.slice ta (fts fs i).length tc) ∧
    ((fps fs i).length = 0 ∨ ∀ x, blk pa = some x → lo ≤ x ∧ x < hi) ∧ ((fts fs i).length = 0 ∨ ∀ x, blk ta = some x → lo ≤ x ∧ x < hi)

theorem GotL.turned {lo hi : Nat} {w w' : World} {v : Value} {fs : List Ft} {S : Nat → Prop} (h : GotL lo hi w v fs) (ht : Turned w w' S) (hS : ∀ x, lo ≤ x → x < hi → ¬ S x) : GotL lo hi w' v fs := by
  obtain ⟨a, cap, rfl, hF, hR⟩ := h
  refine ⟨a, cap, rfl, fun i hi => ?_, fun i hi => ?_⟩
  · obtain ⟨b, off, pa, pc, ta, tc, rfl, hb1, hb2, h3, h4, h5, h6⟩ := hR i hi
    obtain ⟨b', off', pa', pc', ta', tc', e, hlt, g1, g2, g3, g4, g5, g6⟩ := hF i hi
    obtain ⟨rfl, rfl⟩ : b = b' ∧ off = off' := by simpa using e
    rw [h3] at g3
    rw [h4] at g4
    obtain ⟨rfl, rfl⟩ : pa = pa' ∧ pc = pc' := by simpa using g3
    obtain ⟨rfl, rfl⟩ : ta = ta' ∧ tc = tc' := by simpa using g4
    have nb : ¬ S b := hS b hb1 hb2
    exact ⟨b, off, pa, pc, ta, tc, rfl, Nat.lt_of_lt_of_le hlt ht.size, ht.cell g1 nb, ht.cell g2 nb, ht.cell h3 nb, ht.cell h4 nb, g5.turned0 ht (h5.imp (fun h => h) fun q x hx => hS x (q x hx).1 (q x hx).2), g6.turned0 ht (h6.imp (fun h => h) fun q x hx => hS x (q x hx).1 (q x hx).2)⟩
  · obtain ⟨b, off, pa, pc, ta, tc, rfl, hb1, hb2, h3, h4, h5, h6⟩ := hR i hi
    have nb : ¬ S b := hS b hb1 hb2
    exact ⟨b, off, pa, pc, ta, tc, rfl, hb1, hb2, ht.cell h3 nb, ht.cell h4 nb, h5, h6⟩

theorem GotL.below {lo hi : Nat} {w w' : World} {v : Value} {fs : List Ft} (h : GotL lo hi w v fs) (hb : Below w.heap.size w w') : GotL lo hi w' v fs := h.turned (S := fun _ => False) (Turned.of_below hb) fun _ _ _ h => h
theorem GotL.mono {lo hi lo' hi' : Nat} {w : World} {v : Value} {fs : List Ft} (h : GotL lo hi w v fs) (h1 : lo' ≤ lo) (h2 : hi ≤ hi') : GotL lo' hi' w v fs := by
  obtain ⟨a, cap, rfl, hF, hR⟩ := h
  refine ⟨a, cap, rfl, hF, fun i hi => ?_⟩
  obtain ⟨b, off, pa, pc, ta, tc, rfl, hb1, hb2, h3, h4, h5, h6⟩ := hR i hi
  exact ⟨b, off, pa, pc, ta, tc, rfl, by omega, by omega, h3, h4, h5.imp (fun h => h) fun q x hx => ⟨by have := (q x hx).1; omega, by have := (q x hx).2; omega⟩, h6.imp (fun h => h) fun q x hx => ⟨by have := (q x hx).1; omega, by have := (q x hx).2; omega⟩⟩
theorem gotL_nil (lo hi : Nat) (w : World) (a : Option Addr) (cap : Nat) : GotL lo hi w (.slice a 0 cap) [] := ⟨a, cap, rfl, FeatsAt.nil _ _, fun _ h => absurd h (Nat.not_lt_zero _)⟩

theorem Row.got {w : World} {lo : Nat} {v : Value} {fs : List Ft} {ad : Nat → Pl} (h : Row w (fun x => lo ≤ x) lo v fs.length fs ad) : GotL lo w.heap.size w v fs := by
  obtain ⟨a, cap, rfl, hF, hR⟩ := h.reads
  refine ⟨a, cap, rfl, hF, fun i hi => ?_⟩
  obtain ⟨b, off, rfl, h1, h2, h3, h4⟩ := hR i hi
  exact ⟨b, off, _, _, _, _, rfl, h1, h2, h3, h4, (h.prng i hi).imp (fun h => h) fun q x hx => ⟨(q x hx).1, (q x hx).2.1⟩, (h.trng i hi).imp (fun h => h) fun q x hx => ⟨(q x hx).1, (q x hx).2.1⟩⟩

/-- how many of the first things stay -/
def cutN (fs : List Ft) (id : ByteArray) (j : Nat) : Nat := (cutL (fs.take j) id).length

theorem cutL_append (xs ys : List Ft) (id : ByteArray) : cutL (xs ++ ys) id = cutL xs id ++ cutL ys id := List.filter_append _ _
theorem cut_split {fs : List Ft} {j : Nat} (h : j < fs.length) : fs = fs.take j ++ fg fs j :: fs.drop (j + 1) := by
  rw [fg_get h, ← List.drop_eq_getElem_cons h, List.take_append_drop]
theorem cutN_yes {fs : List Ft} {id : ByteArray} {j : Nat} (h : j < fs.length) (hne : fid fs j ≠ id) : cutN fs id (j + 1) = cutN fs id j + 1 ∧ fg (cutL fs id) (cutN fs id j) = fg fs j ∧ cutN fs id j < (cutL fs id).length := by
  have e1 : cutL [fg fs j] id = [fg fs j] := by
    unfold cutL
    rw [List.filter_cons_of_pos (by simpa [fid] using hne)]
    rfl
  have e2 : cutL fs id = cutL (fs.take j) id ++ fg fs j :: cutL (fs.drop (j + 1)) id := by
    conv => lhs; rw [cut_split h]
    rw [cutL_append, show fg fs j :: fs.drop (j + 1) = [fg fs j] ++ fs.drop (j + 1) from rfl, cutL_append, e1]
    rfl
  refine ⟨?_, ?_, ?_⟩
  · unfold cutN
    rw [List.take_succ_eq_append_getElem h, ← fg_get h, cutL_append, e1]
    simp
  · rw [e2]
    unfold cutN fg
    simp
  · rw [e2]
    unfold cutN
    simp
theorem cutN_no {fs : List Ft} {id : ByteArray} {j : Nat} (h : j < fs.length) (he : fid fs j = id) : cutN fs id (j + 1) = cutN fs id j := by
  have e1 : cutL [fg fs j] id = [] := by
    unfold cutL
    rw [List.filter_cons_of_neg (by simpa [fid] using he)]
    rfl
  unfold cutN
  rw [List.take_succ_eq_append_getElem h, ← fg_get h, cutL_append, e1]
  simp
theorem cutN_all (fs : List Ft) (id : ByteArray) : cutN fs id fs.length = (cutL fs id).length := by unfold cutN; rw [List.take_length]
end Go.Proofs.YtelimcknhaflfaaGreat

namespace Go.Proofs.YtelimcknhaflfaaGreat
set_option linter.unusedVariables false
open Go.ChangeShapes Go.WideShapes Go.ChangeAt Go.RowKit

theorem lmkTo_full {fs : List Ft} (k : Int) {i : Nat} (h : i < fs.length) : fid (lmkTo fs k fs.length) i = markT (lmk fs k i) ∧ fkd (lmkTo fs k fs.length) i = lmk fs k i + 1 ∧ fps (lmkTo fs k fs.length) i = marks (lmk fs k i + 2) (fps fs i).length ∧ fts (lmkTo fs k fs.length) i = marksT (lmk fs k i + 2 + 2 * ((fps fs i).length : Int)) (fts fs i).length := by
  unfold fid fkd
  have e : fg (lmkTo fs k fs.length) i = lmkF fs k i := by rw [lmkTo_at k _ h, if_pos h]
  have e3 : fps (lmkTo fs k fs.length) i = (lmkF fs k i).2.2.1 := by rw [← e]; rfl
  have e4 : fts (lmkTo fs k fs.length) i = (lmkF fs k i).2.2.2 := by rw [← e]; rfl
  rw [e, e3, e4]
  exact ⟨rfl, rfl, rfl, rfl⟩

/-- a list that lies in memory of its own between these blocks -/
def ListH (lo hi : Nat) (w : World) (a : Option Addr) (gs : List Ft) : Prop :=
  gs = [] ∨ ∃ b ad, a = some ⟨b, 0, none⟩ ∧ Lies w b 0 gs ad ∧ Sep b gs.length ad ∧ ∀ x, blocksOf b gs.length ad x → lo ≤ x ∧ x < hi

theorem Built.listH {w : World} {lo : Nat} {v : Value} {gs : List Ft} {ad : Nat → Pl} (h : Built w lo v gs.length gs ad) : ∃ a cap, v = .slice a gs.length cap ∧ ListH lo w.heap.size w a gs := by
  obtain ⟨h1, ⟨h2, h3⟩ | ⟨b, cap, cur, rfl, _⟩⟩ := h.row
  · exact ⟨none, 0, by rw [h2, h3], .inl (List.eq_nil_of_length_eq_zero h3)⟩
  · exact ⟨some ⟨b, 0, none⟩, cap, rfl, .inr ⟨b, ad, rfl, h.lies.1, h.lies.2.1, h.lies.2.2⟩⟩

theorem ListH.reads {lo hi : Nat} {w : World} {a : Option Addr} {gs : List Ft} (h : ListH lo hi w a gs) : FeatsAt w a gs := by
  rcases h with rfl | ⟨b, ad, rfl, h, _⟩
  · exact FeatsAt.nil _ _
  · exact h.reads

theorem ListH.turned {lo hi : Nat} {w w' : World} {a : Option Addr} {gs : List Ft} {S : Nat → Prop} (h : ListH lo hi w a gs) (ht : Turned w w' S) (hS : ∀ x, lo ≤ x → x < hi → ¬ S x) : ListH lo hi w' a gs := by
  rcases h with rfl | ⟨b, ad, rfl, h, h2, h3⟩
  · exact .inl rfl
  · exact .inr ⟨b, ad, rfl, h.turned ht (fun x hx => hS x (h3 x hx).1 (h3 x hx).2), h2, h3⟩

theorem ListH.below {lo hi : Nat} {w w' : World} {a : Option Addr} {gs : List Ft} (h : ListH lo hi w a gs) (hb : Below w.heap.size w w') : ListH lo hi w' a gs := h.turned (S := fun _ => False) (Turned.of_below hb) fun _ _ _ h => h

theorem GotL.reads {lo hi : Nat} {w : World} {a : Option Addr} {cap : Nat} {gs : List Ft} (h : GotL lo hi w (.slice a gs.length cap) gs) : FeatsAt w a gs := by
  obtain ⟨a', cap', e, h, _⟩ := h
  obtain ⟨rfl, rfl⟩ : a = a' ∧ cap = cap' := by simpa using e
  exact h

set_option maxRecDepth 100000 in
theorem markFeatS_nil (a : Option Addr) (cap : Nat) (k : Int) (w : World) :
    Calls Tryz.prog 13 #[.slice a 0 cap, .int .i64 k] w fun e w' => e = .returned (.int .i64 k) ∧ w' = w := by
  go_enter Tryz.func13, Tryz.ntmps13
  go_wp2
  go_loop [1, 5] (fun s1 i => s1 = .int .i64 k ∧ i = .int .i64 0) (fun _ _ => 0)
  case atStart => exact ⟨rfl, rfl⟩
  case round =>
    obtain ⟨rfl, rfl⟩ := hrel
    go_wp2
    go_ret
    exact ⟨rfl, rfl⟩

theorem markFeatS_list (lo hi : Nat) (a : Option Addr) (cap : Nat) (gs : List Ft) (k : Int) (w : World) (hl : gs.length ≤ 1048576) (hL : FeatsLen gs 1048576) (h0 : 0 ≤ k) (h4 : k ≤ 4) (h : ListH lo hi w a gs) :
    Calls Tryz.prog 13 #[.slice a gs.length cap, .int .i64 k] w fun e w' => e = .returned (.int .i64 (lmk gs k gs.length)) ∧ FeatsAt w' a (lmkTo gs k gs.length) ∧ Turned w w' (fun x => lo ≤ x ∧ x < hi) := by
  rcases h with rfl | ⟨b, ad, rfl, h, h2, h3⟩
  · refine (markFeatS_nil a cap k w).mono fun e w' ⟨he, hw⟩ => ?_
    subst hw
    exact ⟨he, FeatsAt.nil _ _, Turned.refl _ _⟩
  · refine (markFeatS_some b 0 cap gs ad k w hl hL h0 h4 h h2).mono fun e w' ⟨he, hlie, ht⟩ => ⟨he, hlie.reads, ht.os, ht.tape, ht.output, ht.size, fun x hx hn => ht.block x hx fun hb => hn (h3 x hb)⟩

set_option maxRecDepth 100000 in
set_option maxHeartbeats 4000000 in
theorem heldFeatS_any (a : Option Addr) (cap : Nat) (fs : List Ft) (k : Int) (w : World) (hp : FeatsAt w a (lmkTo fs k fs.length)) (hl : fs.length ≤ 1048576) (hL : FeatsLen fs 1048576) (h0 : 0 ≤ k) (h4 : k ≤ 4) :
    Calls Tryz.prog 20 #[.slice a fs.length cap, .int .i64 k] w fun e w' => e = .returned (.int .i64 (lmk fs k fs.length)) ∧ Below w.heap.size w w' := by
  have HP := Lib.hid hp
  have HL := Lib.hid hL
  clear hp hL
  go_enter Tryz.func20, Tryz.ntmps20
  go_wp2
  go_loopw [1, 5] (fun q i wr => ∃ j : Nat, j ≤ fs.length ∧ i = .int .i64 j ∧ q = .int .i64 (lmk fs k j) ∧ Below w.heap.size w wr) (fun _ i _ => fs.length - (intOf i).toNat)
  case atStart => exact ⟨0, Nat.zero_le _, rfl, rfl, Below.refl _ _⟩
  case round =>
    obtain ⟨j, hj, rfl, rfl, hbel⟩ := hrel
    have HB := Lib.hid hbel
    by_cases hlt : j < fs.length
    · obtain ⟨b, off, pa, pc, ta, tc, rfl, hb, d1, d2, d3, d4, hpp, htt⟩ := HP.out j (by rw [lmkTo_len]; exact hlt)
      obtain ⟨f1, f2, f3, f4⟩ := lmkTo_full k hlt
      rw [f3, marks_len] at d3
      rw [f4, marksT_len] at d4
      rw [f3] at hpp
      rw [f4] at htt
      rw [f1] at d1
      rw [f2] at d2
      rw [← hbel.cell (p := ⟨b, _, none⟩) hb] at d1 d2 d3 d4
      obtain ⟨k0, k1⟩ := lmk_le h0 h4 HL.out j hj
      obtain ⟨l1, l2, l3, l4⟩ := HL.out j hlt
      have D1 := Lib.hid (hpp.below hbel)
      have D2 := Lib.hid (htt.below hbel)
      have HN : Hid (lmk fs k (j + 1) = lmk fs k j + 2 + 2 * ((fps fs j).length : Int) + 2 * ((fts fs j).length : Int)) := rfl
      clear hbel hpp htt l4 f1 f2 f3 f4
      generalize lmk fs k j = m at *
      have e1 : ((markT m).toList == (markT m).toList) = true := by simp
      have e2 : (m + 1 != m + 1) = false := by simp
      go_upto_region 4 with (fail)
      go_cut [19] (fun s19 wx => s19 = .bool false ∧ Below wr.heap.size wr wx)
      case first =>
        go_region_held3 (fun w' => w'.cell? ⟨b, off + j * 4, none⟩ = some (.string (markT m)) ∧ Below wr.heap.size wr w')
          (first
            | exact ⟨d1, (Below.refl _ _).drew⟩
            | (go_split_ands
               rename_i hS0 hS1
               exact ⟨cell_later hbn hS0, hS1.trans (hbn.mono hS1.size)⟩))
          (first
            | (go_at_call 34
               refine (markText_any _ _ (by omega)).mono ?_
               rintro e wn ⟨rfl, hbn⟩))
        all_goals (go_wp2_with fail; go_meet; go_split_ands; exact ⟨by simp, by assumption⟩)
      case rest =>
        obtain ⟨rfl, hB⟩ := hcut
        replace d2 := cell_later hB d2
        replace d3 := cell_later hB d3
        replace d4 := cell_later hB d4
        replace D1 := Lib.hid (D1.out.below hB)
        replace D2 := Lib.hid (D2.out.below hB)
        have B1 : Hid (Below w.heap.size w _) := HB.out.trans (hB.mono HB.out.size)
        clear hB d1 e1
        go_wp2_with fail
        refine (heldPtS_any _ _ _ _ _ (show PtsAt _ _ (marks (m + 1 + 1) _) by rw [show m + 1 + 1 = m + 2 by omega]; exact D1.out) (by omega) (by omega) (by omega)).mono ?_
        rintro e w2 ⟨rfl, rfl⟩
        go_wp2_with fail
        refine (heldTagS_any _ _ _ _ _ (show TagsAt _ _ (marksT (m + 1 + 1 + 2 * ((fps fs j).length : Int)) _) by rw [show m + 1 + 1 = m + 2 by omega]; exact D2.out) (by omega) (by omega) (by omega)).mono ?_
        rintro e w3 ⟨rfl, hb3⟩
        have B3 : Hid (Below w.heap.size w w3) := B1.out.trans (hb3.mono B1.out.size)
        clear hb3 d2 d3 d4
        go_wp2
        go_roundw
        case rel => exact ⟨j + 1, by omega, by go_num, congrArg (Value.int .i64) (by rw [HN.out]; omega), B3.out⟩
        case measure => simp [intOf]; omega
    · obtain rfl : j = fs.length := by omega
      clear hbel
      go_wp2
      go_ret
      exact ⟨rfl, HB.out⟩
end Go.Proofs.YtelimcknhaflfaaGreat

namespace Go.Proofs.YtelimcknhaflfaaGreat
set_option linter.unusedVariables false
open Go.ChangeShapes Go.WideShapes Go.ChangeAt Go.RowKit Go.Deep Go.Maps

theorem putL_pos {fs : List Ft} {t : Ft} (h : ∀ f ∈ fs, 0 < f.2.2.1.length) (ht : 0 < t.2.2.1.length) : ∀ f ∈ putL fs t, 0 < f.2.2.1.length := fun f hf => by
  rcases putL_mem hf with rfl | h'
  · exact ht
  · exact h f h'

/-- the map's entries with one put tell the things with one put -/
theorem ents_put {w : World} {e : En} {t : Ft} (he : e.1 = t.1) (hv : FeatV w e.2 t) : ∀ {es : List En} {fs : List Ft}, Ents w es fs → Ents w (putF es e) (putL fs t)
  | [], [], _ => by
    unfold putF putL
    exact ents_cons.2 ⟨⟨he, hv⟩, rfl, fun i hi => absurd hi (Nat.not_lt_zero _)⟩
  | [], f :: fs, h => absurd h.1 (by simp)
  | e' :: es, [], h => absurd h.1 (by simp)
  | e' :: es, f :: fs, h => by
    obtain ⟨⟨h1, h2⟩, h3⟩ := ents_cons.1 h
    have k1 : klF e' = kf f := by unfold klF kf; rw [h1]
    have k2 : klF e = kf t := by unfold klF kf; rw [he]
    unfold putF putL
    rw [k1, k2]
    by_cases hle : kf t ≤ kf f
    · rw [if_pos hle, if_pos hle]
      have hc := ents_cut t.1 h
      have c1 : cutF (e' :: es) t.1.data.toList = (e' :: es).filter (fun s => decide (klF s ≠ kf t)) := rfl
      have c2 : cutL (f :: fs) t.1 = (f :: fs).filter (fun s => decide (kf s ≠ kf t)) := by
        unfold cutL
        refine List.filter_congr fun x _ => ?_
        have : (x.1 ≠ t.1) ↔ (kf x ≠ kf t) := by
          constructor
          · intro h e
            refine h ?_
            rw [← toList_inj, ByteArray.toList_eq, ByteArray.toList_eq]
            exact e
          · intro h e
            exact h (by unfold kf; rw [e])
        exact decide_eq_decide.2 this
      rw [← c1, ← c2]
      exact ents_cons.2 ⟨⟨he, hv⟩, hc⟩
    · rw [if_neg hle, if_neg hle]
      exact ents_cons.2 ⟨⟨h1, h2⟩, ents_put he hv h3⟩

end Go.Proofs.YtelimcknhaflfaaGreat

namespace Go.Proofs.YtelimcknhaflfaaGreat
set_option linter.unusedVariables false
open Go.ChangeShapes Go.WideShapes Go.ChangeAt Go.RowKit Go.Deep Go.Maps

/-- is it a thing -/
def ftOk1 (f : Ft) : Bool := featOk f.1 f.2.1 f.2.2.1 f.2.2.2
/-- is there a map with it -/
def putHas (fs : List Ft) (f : Ft) : Bool := sheetOk fs && ftOk1 f && decide ((putL fs f).length ≤ 8)
/-- what the map with it is -/
def putRL (fs : List Ft) (f : Ft) : List Ft := if putHas fs f then putL fs f else []

/-- how many entries a map has that tells these -/
theorem size_tells {w : World} {b n : Nat} {D : DataW Value} {us : List En} (hown : w.ownsMap Tryz.prog 9 heldElem b n D) (ht : TellsF D us) : Maps.size D = us.length := by
  have h1 := (sorted_toldF hown ht (List.Perm.refl (strKeys D))).2
  have h2 : (strKeys D).length = Maps.size D := by
    obtain ⟨es, rfl⟩ := hown.isMap
    simp [strKeys, Maps.size]
  omega

end Go.Proofs.YtelimcknhaflfaaGreat

namespace Go.Proofs.YtelimcknhaflfaaGreat
set_option linter.unusedVariables false
open Go.ChangeShapes Go.WideShapes Go.ChangeAt Go.RowKit Go.Deep

set_option maxRecDepth 100000 in
set_option maxHeartbeats 4000000 in
theorem l3Cut_any (a : Option Addr) (cap : Nat) (fs : List Ft) (id : ByteArray) (w : World) (hp : FeatsAt w a fs) (hl : fs.length ≤ 1048576) :
    Calls Tryz.prog 43 #[.slice a fs.length cap, .string id] w fun e w' => (∃ a' cap', e = .returned (.slice a' (cutL fs id).length cap') ∧ FeatsAt w' a' (cutL fs id)) ∧ Below w.heap.size w w' := by
  obtain ⟨i0, hi, hz0, hz1, hz2⟩ := info_parts infoF
  have HI := Lib.hid hi
  have HZ0 := Lib.hid hz0
  have HZ1 := Lib.hid hz1
  have HZ2 := Lib.hid hz2
  have HP := Lib.hid hp
  clear hi hz0 hz1 hz2 hp
  go_enter Tryz.func43, Tryz.ntmps43
  go_wp2
  go_loopw [5, 6] (fun s i wr => ∃ (j : Nat) (v : Value) (ad : Nat → Pl), j ≤ fs.length ∧ i = .int .i64 j ∧ v = s ∧ Row wr (fun x => x < w.heap.size) w.heap.size v (cutN fs id j) (cutL fs id) ad ∧ Below w.heap.size w wr) (fun _ i _ => fs.length - (intOf i).toNat)
  case atStart => exact ⟨0, _, fun _ => ((none, 0), (none, 0)), Nat.zero_le _, rfl, rfl, ⟨World.ownsRow_made w #[] 0 (Nat.le_refl _) (by unfold maxLen; omega) rfl, fun _ h => absurd h (Nat.not_lt_zero _), fun _ h => absurd h (Nat.not_lt_zero _), fun _ h => absurd h (Nat.not_lt_zero _), fun _ h => absurd h (Nat.not_lt_zero _)⟩, (Below.refl _ _).alloc (Nat.le_refl _) _⟩
  case round =>
    obtain ⟨j, v, ad, hj, rfl, rfl, hro, hbel⟩ := hrel
    have hsz := hbel.size
    have HR := Lib.hid hro
    have HB := Lib.hid hbel
    by_cases hlt : j < fs.length
    · obtain ⟨b, off, pa, pc, ta, tc, rfl, hb, hc1, hc2, hc3, hc4, hpp, htt⟩ := HP.out j hlt
      rw [← hbel.cell (p := ⟨b, _, none⟩) hb] at hc1 hc2 hc3 hc4
      have zb : b < wr.heap.size := by omega
      have hbq := bytes_beq (fid fs j) id
      have PL : Hid ((fps fs j).length = 0 ∨ ∀ x, blk pa = some x → x < w.heap.size) := by
        by_cases h : (fps fs j).length = 0
        · exact .inl h
        · obtain ⟨b', o', rfl, h1, _⟩ := hpp 0 (by omega)
          exact .inr fun x hx => by obtain rfl : b' = x := (by simpa [blk] using hx); exact h1
      have TL : Hid ((fts fs j).length = 0 ∨ ∀ x, blk ta = some x → x < w.heap.size) := by
        by_cases h : (fts fs j).length = 0
        · exact .inl h
        · obtain ⟨b', o', rfl, h1, _⟩ := htt 0 (by omega)
          exact .inr fun x hx => by obtain rfl : b' = x := (by simpa [blk] using hx); exact h1
      have D1 := Lib.hid (hpp.below hbel)
      have D2 := Lib.hid (htt.below hbel)
      have HV : Hid (∀ x, v.ownBlock = some x → w.heap.size ≤ x) := fun x hx => (hro.row.lt x hx).1
      clear hro hbel hpp htt
      by_cases hs : fid fs j = id
      · rw [decide_eq_true hs] at hbq
        have HN := Lib.hid (cutN_no hlt hs)
        clear hs
        go_wp2
        go_roundw
        case rel => exact ⟨j + 1, v, ad, by omega, by go_num, rfl, by rw [HN.out]; exact HR.out, HB.out⟩
        case measure => simp [intOf]; omega
      · rw [decide_eq_false hs] at hbq
        have HN := Lib.hid (cutN_yes hlt hs)
        have hkl : cutN fs id j < 1048576 := by have := HN.out.2.2; have := cutL_len fs id; omega
        clear hs
        have A3 : Hid (∀ o, Below wr.heap.size wr (wr.alloc o)) := fun o => (Below.refl _ _).alloc (Nat.le_refl _) _
        go_wp2_with (at_builtin; refine wpList_append_lies _ (by rfl) _ _ _ (by rfl) w.heap.size 57 i0 _ 4 72 Tryz.underlying26 HI.out HZ0.out HZ1.out HZ2.out rfl (by omega) v (cutN fs id j) (flatF (cutL fs id) ad (cutN fs id j)) (by rfl) (HR.out.row.alloc _) ⟨wr.heap.size, 0, none⟩ 1 1 (cellsF (fg fs j) ((pa, pc), (ta, tc))) (by rfl) (by rfl) (World.news_of_block (cs := #[.string (fid fs j), .int .i64 (fkd fs j), .slice pa (fps fs j).length pc, .slice ta (fts fs j).length tc]) (t := 57) (fr := (0, 0)) (heap_alloc_new wr _)) (by simp [Value.oneCell', cellsF]) (by omega) (by unfold maxLen; omega) (by omega) (by simp; omega) (wr.heap.size + 1) (by simp) ?_; intro gg cap' wa hown1 hgrow hat hlt')
        have eg : fg (cutL fs id) (cutN fs id j) = fg fs j := HN.out.2.1
        have ep : fps (cutL fs id) (cutN fs id j) = fps fs j := by unfold fps; rw [eg]
        have et : fts (cutL fs id) (cutN fs id j) = fts fs j := by unfold fts; rw [eg]
        have HS : Hid (Row wa (fun x => x < w.heap.size) w.heap.size (.slice (some ⟨gg, 0, none⟩) (cutN fs id j + 1) cap') (cutN fs id j + 1) (cutL fs id) (plSet ad (cutN fs id j) ((pa, pc), (ta, tc)))) := by
          refine HR.out.step (Below.refl _ _) (A3.out _) (by simp) (by rw [ep]; exact D1.out) ?_ (by rw [et]; exact D2.out) ?_ (by rw [eg]; exact hown1) hgrow hat
          · rw [ep]
            exact PL.out.imp (fun h => h) fun q x hx => ⟨q x hx, by have := q x hx; omega, fun e => by have h1 := HV.out x e; have h2 := q x hx; omega⟩
          · rw [et]
            exact TL.out.imp (fun h => h) fun q x hx => ⟨q x hx, by have := q x hx; omega, fun e => by have h1 := HV.out x e; have h2 := q x hx; omega⟩
        have HG := Lib.hid hgrow
        clear hown1 hgrow hat eg ep et
        go_roundw
        case rel => exact ⟨j + 1, _, _, by omega, by go_num, rfl, by rw [HN.out.1]; exact HS.out, (HB.out.alloc hsz _).grown HG.out (by simp; omega) (fun x hx => HV.out x hx)⟩
        case measure => simp [intOf]; omega
    · obtain rfl : j = fs.length := by omega
      have HR' : Hid (Row wr (fun x => x < w.heap.size) w.heap.size v (cutL fs id).length (cutL fs id) ad) := by rw [← cutN_all fs id]; exact HR.out
      obtain ⟨a', cap', rfl, hF, _⟩ := HR'.out.reads
      have HF := Lib.hid hF
      clear hro hbel hF
      go_wp2
      go_ret
      exact ⟨⟨a', cap', rfl, HF.out⟩, HB.out⟩

set_option maxRecDepth 100000 in
set_option maxHeartbeats 4000000 in
theorem l3Copy_any (a : Option Addr) (cap : Nat) (fs : List Ft) (w : World) (hp : FeatsAt w a fs) (hl : fs.length ≤ 1048576) (hL : FeatsLen fs 1048576) (hpos : ∀ i, i < fs.length → 0 < (fps fs i).length) :
    Calls Tryz.prog 44 #[.slice a fs.length cap] w fun e w' => (∃ v, e = .returned v ∧ GotL w.heap.size w'.heap.size w' v fs) ∧ Below w.heap.size w w' := by
  obtain ⟨i0, hi, hz0, hz1, hz2⟩ := info_parts infoF
  have HI := Lib.hid hi
  have HZ0 := Lib.hid hz0
  have HZ1 := Lib.hid hz1
  have HZ2 := Lib.hid hz2
  have HP := Lib.hid hp
  have HL := Lib.hid hL
  have HQ := Lib.hid hpos
  clear hi hz0 hz1 hz2 hp hL hpos
  go_enter Tryz.func44, Tryz.ntmps44
  go_wp2
  go_loopw [3, 4] (fun s i wr => ∃ (k : Nat) (v : Value) (ad : Nat → Pl), k ≤ fs.length ∧ i = .int .i64 k ∧ v = s ∧ Row wr (fun x => w.heap.size ≤ x) w.heap.size v k fs ad ∧ Below w.heap.size w wr) (fun _ i _ => fs.length - (intOf i).toNat)
  case atStart => exact ⟨0, _, fun _ => ((none, 0), (none, 0)), Nat.zero_le _, rfl, rfl, ⟨World.ownsRow_made w #[] 0 (Nat.le_refl _) (by unfold maxLen; omega) rfl, fun _ h => absurd h (Nat.not_lt_zero _), fun _ h => absurd h (Nat.not_lt_zero _), fun _ h => absurd h (Nat.not_lt_zero _), fun _ h => absurd h (Nat.not_lt_zero _)⟩, (Below.refl _ _).alloc (Nat.le_refl _) _⟩
  case round =>
    obtain ⟨k, v, ad, hk, rfl, rfl, hro, hbel⟩ := hrel
    have hsz := hbel.size
    have HR := Lib.hid hro
    have HB := Lib.hid hbel
    by_cases hlt : k < fs.length
    · obtain ⟨b, off, pa, pc, ta, tc, rfl, hb, hc1, hc2, hc3, hc4, hpp, htt⟩ := HP.out k hlt
      rw [← hbel.cell (p := ⟨b, _, none⟩) hb] at hc1 hc2 hc3 hc4
      obtain ⟨l1, l2, l3, _⟩ := HL.out k hlt
      have h0 := HQ.out k hlt
      have D1 := Lib.hid (hpp.below hbel)
      have D2 := Lib.hid (htt.below hbel)
      have HV : Hid (∀ x, v.ownBlock = some x → w.heap.size ≤ x ∧ x < wr.heap.size) := fun x hx => hro.row.lt x hx
      clear hro hbel hpp htt
      go_wp2_with fail
      refine (l2Copy_got _ _ _ _ _ _ _ _ _ D1.out D2.out (by omega) h0 (by omega)).mono ?_
      rintro e w3 ⟨⟨v3, rfl, hg3⟩, hb3⟩
      obtain ⟨qa, qc, sa, sc, rfl, q1, q2, q3, q4⟩ := hg3
      have E1 := Lib.hid q1
      have E2 := Lib.hid q2
      have E3 := Lib.hid q3
      have E4 := Lib.hid q4
      have B3 := Lib.hid hb3
      have R3 : Hid (w3.ownsRow w.heap.size 57 4 v k (flatF fs ad k)) := ownsRow_below HR.out.row hb3
      have hz3 := hb3.size
      have A3 : Hid (∀ o, Below w3.heap.size w3 (w3.alloc o)) := fun o => (Below.refl _ _).alloc (Nat.le_refl _) _
      clear hb3 q1 q2 q3 q4 hc1 hc2 hc3 hc4
      go_wp2_with (at_builtin; refine wpList_append_lies _ (by rfl) _ _ _ (by rfl) w.heap.size 57 i0 _ 4 72 Tryz.underlying26 HI.out HZ0.out HZ1.out HZ2.out rfl (by omega) v k (flatF fs ad k) (by rfl) (R3.out.alloc _) ⟨w3.heap.size, 0, none⟩ 1 1 (cellsF (fg fs k) ((qa, qc), (sa, sc))) (by rfl) (by rfl) (World.news_of_block (cs := #[.string (fid fs k), .int .i64 (fkd fs k), .slice qa (fps fs k).length qc, .slice sa (fts fs k).length sc]) (t := 57) (fr := (0, 0)) (heap_alloc_new w3 _)) (by simp [Value.oneCell', cellsF]) (by omega) (by unfold maxLen; omega) (by omega) (by simp; omega) (w3.heap.size + 1) (by simp) ?_; intro gg cap' wa hown1 hgrow hat hlt')
      have HS : Hid (Row wa (fun x => w.heap.size ≤ x) w.heap.size (.slice (some ⟨gg, 0, none⟩) (k + 1) cap') (k + 1) fs (plSet ad k ((qa, qc), (sa, sc)))) := by
        refine HR.out.step B3.out (A3.out _) (by simp) E1.out ?_ E2.out ?_ hown1 hgrow hat
        · exact E3.out.imp (fun h => h) fun q x hx => ⟨by have := (q x hx).1; omega, (q x hx).2, fun e => by have h1 := (HV.out x e).2; have h2 := (q x hx).1; omega⟩
        · exact E4.out.imp (fun h => h) fun q x hx => ⟨by have := (q x hx).1; omega, (q x hx).2, fun e => by have h1 := (HV.out x e).2; have h2 := (q x hx).1; omega⟩
      have HG := Lib.hid hgrow
      clear hown1 hgrow hat
      go_roundw
      case rel => exact ⟨k + 1, _, _, by omega, by go_num, rfl, HS.out, ((HB.out.trans (B3.out.mono hsz)).alloc (by omega) _).grown HG.out (by simp; omega) (fun x hx => (HV.out x hx).1)⟩
      case measure => simp [intOf]; omega
    · obtain rfl : k = fs.length := by omega
      have HG := Lib.hid HR.out.got
      clear hro hbel
      go_wp2
      go_ret
      exact ⟨⟨v, rfl, HG.out⟩, HB.out⟩

theorem cutL_pos {fs : List Ft} (id : ByteArray) (hok : sheetOk fs = true) : ∀ i, i < (cutL fs id).length → 0 < (fps (cutL fs id) i).length := by
  intro i hi
  have hm : (cutL fs id)[i] ∈ fs := (List.mem_filter.1 (List.getElem_mem hi)).1
  obtain ⟨j, hj, e⟩ := List.getElem_of_mem hm
  have := ftOk_pts (good_ok hok hj)
  unfold fps at this ⊢
  rwa [fg_get hi, ← e, ← fg_get hj]

end Go.Proofs.YtelimcknhaflfaaGreat

namespace Go.Proofs.YtelimcknhaflfaaGreat
set_option linter.unusedVariables false
open Go.ChangeShapes Go.WideShapes Go.ChangeAt Go.RowKit Go.Deep

set_option maxRecDepth 100000 in
set_option maxHeartbeats 8000000 in
theorem l3Put_any (a : Option Addr) (cap : Nat) (fs : List Ft) (f : Ft) (pf tf : Option Addr) (pfc tfc : Nat) (w : World) (hp : FeatsAt w a fs) (hl : fs.length ≤ 1048576) (hpf : PtsAt w pf f.2.2.1) (htf : TagsAt w tf f.2.2.2) :
    Calls Tryz.prog 42 #[.slice a fs.length cap, .agg #[.string f.1, .int .i64 f.2.1, .slice pf f.2.2.1.length pfc, .slice tf f.2.2.2.length tfc]] w fun e w' => (∃ a' cap', e = .returned (.slice a' (putL fs f).length cap') ∧ FeatsAt w' a' (putL fs f)) ∧ Below w.heap.size w w' := by
  obtain ⟨i0, hi, hz0, hz1, hz2⟩ := info_parts infoF
  have HI := Lib.hid hi
  have HZ0 := Lib.hid hz0
  have HZ1 := Lib.hid hz1
  have HZ2 := Lib.hid hz2
  have HP := Lib.hid hp
  have FP := Lib.hid hpf
  have FT := Lib.hid htf
  have PF := Lib.hid (pts_low hpf)
  have TF := Lib.hid (tags_low htf)
  clear hi hz0 hz1 hz2 hp hpf htf
  go_enter Tryz.func42, Tryz.ntmps42
  go_wp2
  go_loopw [5, 6, 7] (fun s d i wr => ∃ (j : Nat) (v : Value) (o : List Ft) (q : Bool) (ad : Nat → Pl), j ≤ fs.length ∧ i = .int .i64 j ∧ d = .bool q ∧ v = s ∧ PutsL fs f j o q ∧ o.length ≤ j + q.toNat ∧ Row wr (fun x => x < w.heap.size) (w.heap.size + 1) v o.length o ad ∧ Box4 wr w.heap.size (.string f.1) (.int .i64 f.2.1) (.slice pf f.2.2.1.length pfc) (.slice tf f.2.2.2.length tfc) ∧ Below w.heap.size w wr) (fun _ _ i _ => fs.length - (intOf i).toNat)
  case atStart =>
    have hro := World.ownsRow_made (w.alloc (.cells #[.string f.1, .int .i64 f.2.1, .slice pf f.2.2.1.length pfc, .slice tf f.2.2.2.length tfc] 57)) #[] 0 (base := w.heap.size + 1) (by simp) (by unfold maxLen; omega) (e := 57) (size := 4) (by simp)
    refine ⟨0, _, [], false, fun _ => ((none, 0), (none, 0)), Nat.zero_le _, rfl, rfl, rfl, PutsL.start _ _, by simp, ⟨by simpa [flatF] using hro, fun _ h => absurd h (Nat.not_lt_zero _), fun _ h => absurd h (Nat.not_lt_zero _), fun _ h => absurd h (Nat.not_lt_zero _), fun _ h => absurd h (Nat.not_lt_zero _)⟩, (Box4.new w _ _ _ _ _).alloc _, ((Below.refl _ _).alloc (Nat.le_refl _) _).alloc (by simp) _⟩
  case round =>
    obtain ⟨j, v, o, q, ad, hj, rfl, rfl, rfl, hP, hol, hro, hbox, hbel⟩ := hrel
    have HR := Lib.hid hro
    have HBX := Lib.hid hbox
    have HB := Lib.hid hbel
    have hsz : w.heap.size < wr.heap.size := hbox.lt
    have HV : Hid (∀ x, v.ownBlock = some x → w.heap.size + 1 ≤ x) := fun x hx => (hro.row.lt x hx).1
    have hol' : o.length ≤ j + 1 := by cases q <;> simp at hol <;> omega
    have FPr := Lib.hid (FP.out.below hbel)
    have FTr := Lib.hid (FT.out.below hbel)
    obtain ⟨x0, x1, x2, x3⟩ := hbox
    by_cases hlt : j < fs.length
    · obtain ⟨b, off, pa, pc, ta, tc, rfl, hb, hc1, hc2, hc3, hc4, hpp, htt⟩ := HP.out j hlt
      rw [← hbel.cell (p := ⟨b, _, none⟩) hb] at hc1 hc2 hc3 hc4
      have hst := hP.step hlt
      have PL := Lib.hid (pts_low hpp)
      have TL := Lib.hid (tags_low htt)
      have D1 := Lib.hid (hpp.below hbel)
      have D2 := Lib.hid (htt.below hbel)
      clear hro hbel hP hpp htt
      have hblt : b < wr.heap.size := by omega
      have nbw : ¬ b = w.heap.size := by omega
      by_cases he : fid fs j = f.1
      · have hk : kf (fg fs j) = kf f := kf_eq.2 he
        have e2 := bytes_beq (fid fs j) f.1
        rw [decide_eq_true he] at e2
        have e1 : Op.bytesLess (fid fs j).toList f.1.toList = false := less_not (by show ¬ kf (fg fs j) < kf f; rw [hk]; exact List.lt_irrefl _)
        have hle : kf f ≤ kf (fg fs j) := by rw [hk]; exact List.le_refl _
        cases q
        · replace hol : o.length ≤ j := hol
          have HS : Hid (PutsL fs f (j + 1) (o ++ [f]) true) := by simpa [Hid, hle, hk] using hst
          clear hst he hle hk
          go_wp2
          go_quiet (fail)
          have Bq : Below wr.heap.size wr (wr.drewN nq) := below_drewN (Below.refl _ _) nq
          have zq : (wr.drewN nq).heap.size = wr.heap.size := rfl
          generalize wr.drewN nq = W1 at *
          replace HR := Lib.hid (HR.out.below Bq)
          replace HBX := Lib.hid (HBX.out.later Bq)
          replace HB := Lib.hid (HB.out.trans (Bq.mono HB.out.size))
          replace FPr := Lib.hid (FPr.out.below Bq)
          replace FTr := Lib.hid (FTr.out.below Bq)
          replace D1 := Lib.hid (D1.out.below Bq)
          replace D2 := Lib.hid (D2.out.below Bq)
          replace hc1 := cell_later Bq hc1
          replace hc2 := cell_later Bq hc2
          replace hc3 := cell_later Bq hc3
          replace hc4 := cell_later Bq hc4
          replace x0 := cell_later Bq x0
          replace x1 := cell_later Bq x1
          replace x2 := cell_later Bq x2
          replace x3 := cell_later Bq x3
          replace hsz : w.heap.size < W1.heap.size := by omega
          replace hblt : b < W1.heap.size := by omega
          clear Bq zq
          have ROW := Lib.hid HR.out.row
          go_wp2_with (at_builtin; refine wpList_append_lies _ (by rfl) _ _ _ (by rfl) (w.heap.size + 1) 57 i0 _ 4 72 Tryz.underlying26 HI.out HZ0.out HZ1.out HZ2.out rfl (by omega) (v) (o.length) (flatF (o) ad (o.length)) (by rfl) (ROW.out.alloc _) ⟨W1.heap.size, 0, none⟩ 1 1 (cellsF f ((pf, pfc), (tf, tfc))) (by rfl) (by rfl) (World.news_of_block (cs := #[.string f.1, .int .i64 f.2.1, .slice pf f.2.2.1.length pfc, .slice tf f.2.2.2.length tfc]) (t := 57) (fr := (0, 0)) (heap_alloc_new W1 _)) (by simp [Value.oneCell', cellsF]) (by omega) (by unfold maxLen; omega) (by omega) (by simp; omega) (W1.heap.size + 1) (by simp) ?_; intro gg1 cap1 wa1 hown1 hgrow1 hat1 hlt1; clear ROW; have vw : (v).ownBlock ≠ some w.heap.size := (fun e => by have := HV.out _ e; omega); replace HR : Hid (Row wa1 (fun x => x < w.heap.size) (w.heap.size + 1) (Value.slice (some ⟨gg1, 0, none⟩) (o.length + 1) cap1) (o ++ [f]).length (o ++ [f]) (plSet ad (o.length) ((pf, pfc), (tf, tfc)))) := HR.out.snoc FPr.out (PF.out.imp (fun h => h) fun q x hx => ⟨q x hx, by have := q x hx; omega, fun e => by have h1 := HV.out x e; have h2 := q x hx; omega⟩) FTr.out (TF.out.imp (fun h => h) fun q x hx => ⟨q x hx, by have := q x hx; omega, fun e => by have h1 := HV.out x e; have h2 := q x hx; omega⟩) (by simpa using hown1) hgrow1 hat1; replace HBX := Lib.hid (BoxF.grown HBX.out hgrow1 vw); replace HB : Hid (Below w.heap.size w wa1) := (HB.out.alloc HB.out.size _).grown hgrow1 (by simp; omega) (fun x hx => by have := HV.out x hx; omega); have vb : (v).ownBlock ≠ some b := (fun e => by have := HV.out b e; omega); replace hc1 := HGF_cell hgrow1 hblt hc1 vb; replace hc2 := HGF_cell hgrow1 hblt hc2 vb; replace hc3 := HGF_cell hgrow1 hblt hc3 vb; replace hc4 := HGF_cell hgrow1 hblt hc4 vb; replace x0 := HGF_cell hgrow1 hsz x0 vw; replace x1 := HGF_cell hgrow1 hsz x1 vw; replace x2 := HGF_cell hgrow1 hsz x2 vw; replace x3 := HGF_cell hgrow1 hsz x3 vw; replace D1 := Lib.hid (PtsKeep D1.out hgrow1 (PL.out.imp (fun h => h) fun q x hx e => by have h1 := q x hx; have h2 := HV.out x e; omega)); replace D2 := Lib.hid (TagsKeep D2.out hgrow1 (TL.out.imp (fun h => h) fun q x hx e => by have h1 := q x hx; have h2 := HV.out x e; omega)); replace FPr := Lib.hid (PtsKeep FPr.out hgrow1 (PF.out.imp (fun h => h) fun q x hx e => by have h1 := q x hx; have h2 := HV.out x e; omega)); replace FTr := Lib.hid (TagsKeep FTr.out hgrow1 (TF.out.imp (fun h => h) fun q x hx e => by have h1 := q x hx; have h2 := HV.out x e; omega)); have hszA : W1.heap.size < wa1.heap.size := (by have h := hgrow1.size; simp at h; omega); replace hsz : w.heap.size < wa1.heap.size := (by omega); replace hblt : b < wa1.heap.size := (by omega); replace HV : Hid (∀ x, (Value.slice (some ⟨gg1, 0, none⟩) (o.length + 1) cap1).ownBlock = some x → w.heap.size + 1 ≤ x) := (fun x e => (hown1.lt x e).1); clear vb; clear hown1 hgrow1 hat1 vw)
          go_wp2
          go_quiet (fail)
          have Bq : Below wa1.heap.size wa1 (wa1.drewN nq) := below_drewN (Below.refl _ _) nq
          have zq : (wa1.drewN nq).heap.size = wa1.heap.size := rfl
          generalize wa1.drewN nq = W2 at *
          replace HR := Lib.hid (HR.out.below Bq)
          replace HBX := Lib.hid (HBX.out.later Bq)
          replace HB := Lib.hid (HB.out.trans (Bq.mono HB.out.size))
          replace FPr := Lib.hid (FPr.out.below Bq)
          replace FTr := Lib.hid (FTr.out.below Bq)
          replace D1 := Lib.hid (D1.out.below Bq)
          replace D2 := Lib.hid (D2.out.below Bq)
          replace hc1 := cell_later Bq hc1
          replace hc2 := cell_later Bq hc2
          replace hc3 := cell_later Bq hc3
          replace hc4 := cell_later Bq hc4
          replace x0 := cell_later Bq x0
          replace x1 := cell_later Bq x1
          replace x2 := cell_later Bq x2
          replace x3 := cell_later Bq x3
          replace hsz : w.heap.size < W2.heap.size := by omega
          replace hblt : b < W2.heap.size := by omega
          clear Bq zq
          go_wp2
          go_roundw
          case rel => exact ⟨j + 1, _, o ++ [f], _, _, by omega, by go_num, rfl, rfl, HS.out, by simp; omega, HR.out, HBX.out, HB.out⟩
          case measure => simp [intOf]; omega
        · have HS : Hid (PutsL fs f (j + 1) o true) := by simpa [Hid, hk] using hst
          clear hst he hle hk
          go_wp2
          go_quiet (fail)
          have Bq : Below wr.heap.size wr (wr.drewN nq) := below_drewN (Below.refl _ _) nq
          have zq : (wr.drewN nq).heap.size = wr.heap.size := rfl
          generalize wr.drewN nq = W1 at *
          replace HR := Lib.hid (HR.out.below Bq)
          replace HBX := Lib.hid (HBX.out.later Bq)
          replace HB := Lib.hid (HB.out.trans (Bq.mono HB.out.size))
          replace FPr := Lib.hid (FPr.out.below Bq)
          replace FTr := Lib.hid (FTr.out.below Bq)
          replace D1 := Lib.hid (D1.out.below Bq)
          replace D2 := Lib.hid (D2.out.below Bq)
          replace hc1 := cell_later Bq hc1
          replace hc2 := cell_later Bq hc2
          replace hc3 := cell_later Bq hc3
          replace hc4 := cell_later Bq hc4
          replace x0 := cell_later Bq x0
          replace x1 := cell_later Bq x1
          replace x2 := cell_later Bq x2
          replace x3 := cell_later Bq x3
          replace hsz : w.heap.size < W1.heap.size := by omega
          replace hblt : b < W1.heap.size := by omega
          clear Bq zq
          go_wp2
          go_quiet (fail)
          have Bq : Below W1.heap.size W1 (W1.drewN nq) := below_drewN (Below.refl _ _) nq
          have zq : (W1.drewN nq).heap.size = W1.heap.size := rfl
          generalize W1.drewN nq = W2 at *
          replace HR := Lib.hid (HR.out.below Bq)
          replace HBX := Lib.hid (HBX.out.later Bq)
          replace HB := Lib.hid (HB.out.trans (Bq.mono HB.out.size))
          replace FPr := Lib.hid (FPr.out.below Bq)
          replace FTr := Lib.hid (FTr.out.below Bq)
          replace D1 := Lib.hid (D1.out.below Bq)
          replace D2 := Lib.hid (D2.out.below Bq)
          replace hc1 := cell_later Bq hc1
          replace hc2 := cell_later Bq hc2
          replace hc3 := cell_later Bq hc3
          replace hc4 := cell_later Bq hc4
          replace x0 := cell_later Bq x0
          replace x1 := cell_later Bq x1
          replace x2 := cell_later Bq x2
          replace x3 := cell_later Bq x3
          replace hsz : w.heap.size < W2.heap.size := by omega
          replace hblt : b < W2.heap.size := by omega
          clear Bq zq
          go_wp2
          go_roundw
          case rel => exact ⟨j + 1, _, o, _, _, by omega, by go_num, rfl, rfl, HS.out, by simp at hol ⊢; omega, HR.out, HBX.out, HB.out⟩
          case measure => simp [intOf]; omega
      · have hk : ¬ kf (fg fs j) = kf f := fun h => he (kf_eq.1 h)
        have e2 := bytes_beq (fid fs j) f.1
        rw [decide_eq_false he] at e2
        by_cases hq : kf (fg fs j) < kf f
        · have e1 : Op.bytesLess (fid fs j).toList f.1.toList = true := less_of hq
          have hle : ¬ kf f ≤ kf (fg fs j) := fun h => h hq
          have HS : Hid (PutsL fs f (j + 1) (o ++ [fg fs j]) q) := by simpa [Hid, hle, hk] using hst
          clear hst he hle hq hk
          cases q
          · replace hol : o.length ≤ j := hol
            go_wp2
            go_quiet (fail)
            have Bq : Below wr.heap.size wr (wr.drewN nq) := below_drewN (Below.refl _ _) nq
            have zq : (wr.drewN nq).heap.size = wr.heap.size := rfl
            generalize wr.drewN nq = W1 at *
            replace HR := Lib.hid (HR.out.below Bq)
            replace HBX := Lib.hid (HBX.out.later Bq)
            replace HB := Lib.hid (HB.out.trans (Bq.mono HB.out.size))
            replace FPr := Lib.hid (FPr.out.below Bq)
            replace FTr := Lib.hid (FTr.out.below Bq)
            replace D1 := Lib.hid (D1.out.below Bq)
            replace D2 := Lib.hid (D2.out.below Bq)
            replace hc1 := cell_later Bq hc1
            replace hc2 := cell_later Bq hc2
            replace hc3 := cell_later Bq hc3
            replace hc4 := cell_later Bq hc4
            replace x0 := cell_later Bq x0
            replace x1 := cell_later Bq x1
            replace x2 := cell_later Bq x2
            replace x3 := cell_later Bq x3
            replace hsz : w.heap.size < W1.heap.size := by omega
            replace hblt : b < W1.heap.size := by omega
            clear Bq zq
            go_wp2
            go_quiet (fail)
            have Bq : Below W1.heap.size W1 (W1.drewN nq) := below_drewN (Below.refl _ _) nq
            have zq : (W1.drewN nq).heap.size = W1.heap.size := rfl
            generalize W1.drewN nq = W2 at *
            replace HR := Lib.hid (HR.out.below Bq)
            replace HBX := Lib.hid (HBX.out.later Bq)
            replace HB := Lib.hid (HB.out.trans (Bq.mono HB.out.size))
            replace FPr := Lib.hid (FPr.out.below Bq)
            replace FTr := Lib.hid (FTr.out.below Bq)
            replace D1 := Lib.hid (D1.out.below Bq)
            replace D2 := Lib.hid (D2.out.below Bq)
            replace hc1 := cell_later Bq hc1
            replace hc2 := cell_later Bq hc2
            replace hc3 := cell_later Bq hc3
            replace hc4 := cell_later Bq hc4
            replace x0 := cell_later Bq x0
            replace x1 := cell_later Bq x1
            replace x2 := cell_later Bq x2
            replace x3 := cell_later Bq x3
            replace hsz : w.heap.size < W2.heap.size := by omega
            replace hblt : b < W2.heap.size := by omega
            clear Bq zq
            have ROW := Lib.hid HR.out.row
            go_wp2_with (at_builtin; refine wpList_append_lies _ (by rfl) _ _ _ (by rfl) (w.heap.size + 1) 57 i0 _ 4 72 Tryz.underlying26 HI.out HZ0.out HZ1.out HZ2.out rfl (by omega) (v) (o.length) (flatF (o) ad (o.length)) (by rfl) (ROW.out.alloc _) ⟨W2.heap.size, 0, none⟩ 1 1 (cellsF (fg fs j) ((pa, pc), (ta, tc))) (by rfl) (by rfl) (World.news_of_block (cs := #[.string (fid fs j), .int .i64 (fkd fs j), .slice pa (fps fs j).length pc, .slice ta (fts fs j).length tc]) (t := 57) (fr := (0, 0)) (heap_alloc_new W2 _)) (by simp [Value.oneCell', cellsF]) (by omega) (by unfold maxLen; omega) (by omega) (by simp; omega) (W2.heap.size + 1) (by simp) ?_; intro gg2 cap2 wa2 hown2 hgrow2 hat2 hlt2; clear ROW; have vw : (v).ownBlock ≠ some w.heap.size := (fun e => by have := HV.out _ e; omega); replace HR : Hid (Row wa2 (fun x => x < w.heap.size) (w.heap.size + 1) (Value.slice (some ⟨gg2, 0, none⟩) (o.length + 1) cap2) (o ++ [(fg fs j)]).length (o ++ [(fg fs j)]) (plSet ad (o.length) ((pa, pc), (ta, tc)))) := HR.out.snoc D1.out (PL.out.imp (fun h => h) fun q x hx => ⟨q x hx, by have := q x hx; omega, fun e => by have h1 := HV.out x e; have h2 := q x hx; omega⟩) D2.out (TL.out.imp (fun h => h) fun q x hx => ⟨q x hx, by have := q x hx; omega, fun e => by have h1 := HV.out x e; have h2 := q x hx; omega⟩) (by simpa using hown2) hgrow2 hat2; replace HBX := Lib.hid (BoxF.grown HBX.out hgrow2 vw); replace HB : Hid (Below w.heap.size w wa2) := (HB.out.alloc HB.out.size _).grown hgrow2 (by simp; omega) (fun x hx => by have := HV.out x hx; omega); clear hown2 hgrow2 hat2 vw)
            go_roundw
            case rel => exact ⟨j + 1, _, o ++ [fg fs j], _, _, by omega, by go_num, rfl, rfl, HS.out, by simp; omega, HR.out, HBX.out, HB.out⟩
            case measure => simp [intOf]; omega
          · replace hol : o.length ≤ j + 1 := hol
            go_wp2
            go_quiet (fail)
            have Bq : Below wr.heap.size wr (wr.drewN nq) := below_drewN (Below.refl _ _) nq
            have zq : (wr.drewN nq).heap.size = wr.heap.size := rfl
            generalize wr.drewN nq = W1 at *
            replace HR := Lib.hid (HR.out.below Bq)
            replace HBX := Lib.hid (HBX.out.later Bq)
            replace HB := Lib.hid (HB.out.trans (Bq.mono HB.out.size))
            replace FPr := Lib.hid (FPr.out.below Bq)
            replace FTr := Lib.hid (FTr.out.below Bq)
            replace D1 := Lib.hid (D1.out.below Bq)
            replace D2 := Lib.hid (D2.out.below Bq)
            replace hc1 := cell_later Bq hc1
            replace hc2 := cell_later Bq hc2
            replace hc3 := cell_later Bq hc3
            replace hc4 := cell_later Bq hc4
            replace x0 := cell_later Bq x0
            replace x1 := cell_later Bq x1
            replace x2 := cell_later Bq x2
            replace x3 := cell_later Bq x3
            replace hsz : w.heap.size < W1.heap.size := by omega
            replace hblt : b < W1.heap.size := by omega
            clear Bq zq
            go_wp2
            go_quiet (fail)
            have Bq : Below W1.heap.size W1 (W1.drewN nq) := below_drewN (Below.refl _ _) nq
            have zq : (W1.drewN nq).heap.size = W1.heap.size := rfl
            generalize W1.drewN nq = W2 at *
            replace HR := Lib.hid (HR.out.below Bq)
            replace HBX := Lib.hid (HBX.out.later Bq)
            replace HB := Lib.hid (HB.out.trans (Bq.mono HB.out.size))
            replace FPr := Lib.hid (FPr.out.below Bq)
            replace FTr := Lib.hid (FTr.out.below Bq)
            replace D1 := Lib.hid (D1.out.below Bq)
            replace D2 := Lib.hid (D2.out.below Bq)
            replace hc1 := cell_later Bq hc1
            replace hc2 := cell_later Bq hc2
            replace hc3 := cell_later Bq hc3
            replace hc4 := cell_later Bq hc4
            replace x0 := cell_later Bq x0
            replace x1 := cell_later Bq x1
            replace x2 := cell_later Bq x2
            replace x3 := cell_later Bq x3
            replace hsz : w.heap.size < W2.heap.size := by omega
            replace hblt : b < W2.heap.size := by omega
            clear Bq zq
            have ROW := Lib.hid HR.out.row
            go_wp2_with (at_builtin; refine wpList_append_lies _ (by rfl) _ _ _ (by rfl) (w.heap.size + 1) 57 i0 _ 4 72 Tryz.underlying26 HI.out HZ0.out HZ1.out HZ2.out rfl (by omega) (v) (o.length) (flatF (o) ad (o.length)) (by rfl) (ROW.out.alloc _) ⟨W2.heap.size, 0, none⟩ 1 1 (cellsF (fg fs j) ((pa, pc), (ta, tc))) (by rfl) (by rfl) (World.news_of_block (cs := #[.string (fid fs j), .int .i64 (fkd fs j), .slice pa (fps fs j).length pc, .slice ta (fts fs j).length tc]) (t := 57) (fr := (0, 0)) (heap_alloc_new W2 _)) (by simp [Value.oneCell', cellsF]) (by omega) (by unfold maxLen; omega) (by omega) (by simp; omega) (W2.heap.size + 1) (by simp) ?_; intro gg2 cap2 wa2 hown2 hgrow2 hat2 hlt2; clear ROW; have vw : (v).ownBlock ≠ some w.heap.size := (fun e => by have := HV.out _ e; omega); replace HR : Hid (Row wa2 (fun x => x < w.heap.size) (w.heap.size + 1) (Value.slice (some ⟨gg2, 0, none⟩) (o.length + 1) cap2) (o ++ [(fg fs j)]).length (o ++ [(fg fs j)]) (plSet ad (o.length) ((pa, pc), (ta, tc)))) := HR.out.snoc D1.out (PL.out.imp (fun h => h) fun q x hx => ⟨q x hx, by have := q x hx; omega, fun e => by have h1 := HV.out x e; have h2 := q x hx; omega⟩) D2.out (TL.out.imp (fun h => h) fun q x hx => ⟨q x hx, by have := q x hx; omega, fun e => by have h1 := HV.out x e; have h2 := q x hx; omega⟩) (by simpa using hown2) hgrow2 hat2; replace HBX := Lib.hid (BoxF.grown HBX.out hgrow2 vw); replace HB : Hid (Below w.heap.size w wa2) := (HB.out.alloc HB.out.size _).grown hgrow2 (by simp; omega) (fun x hx => by have := HV.out x hx; omega); clear hown2 hgrow2 hat2 vw)
            go_roundw
            case rel => exact ⟨j + 1, _, o ++ [fg fs j], _, _, by omega, by go_num, rfl, rfl, HS.out, by simp; omega, HR.out, HBX.out, HB.out⟩
            case measure => simp [intOf]; omega
        · have e1 : Op.bytesLess (fid fs j).toList f.1.toList = false := less_not hq
          have hle : kf f ≤ kf (fg fs j) := hq
          cases q
          · replace hol : o.length ≤ j := hol
            have HS : Hid (PutsL fs f (j + 1) (o ++ [f] ++ [fg fs j]) true) := by simpa [Hid, hle, hk] using hst
            clear hst he hle hq hk
            go_wp2
            go_quiet (fail)
            have Bq : Below wr.heap.size wr (wr.drewN nq) := below_drewN (Below.refl _ _) nq
            have zq : (wr.drewN nq).heap.size = wr.heap.size := rfl
            generalize wr.drewN nq = W1 at *
            replace HR := Lib.hid (HR.out.below Bq)
            replace HBX := Lib.hid (HBX.out.later Bq)
            replace HB := Lib.hid (HB.out.trans (Bq.mono HB.out.size))
            replace FPr := Lib.hid (FPr.out.below Bq)
            replace FTr := Lib.hid (FTr.out.below Bq)
            replace D1 := Lib.hid (D1.out.below Bq)
            replace D2 := Lib.hid (D2.out.below Bq)
            replace hc1 := cell_later Bq hc1
            replace hc2 := cell_later Bq hc2
            replace hc3 := cell_later Bq hc3
            replace hc4 := cell_later Bq hc4
            replace x0 := cell_later Bq x0
            replace x1 := cell_later Bq x1
            replace x2 := cell_later Bq x2
            replace x3 := cell_later Bq x3
            replace hsz : w.heap.size < W1.heap.size := by omega
            replace hblt : b < W1.heap.size := by omega
            clear Bq zq
            have ROW := Lib.hid HR.out.row
            go_wp2_with (at_builtin; refine wpList_append_lies _ (by rfl) _ _ _ (by rfl) (w.heap.size + 1) 57 i0 _ 4 72 Tryz.underlying26 HI.out HZ0.out HZ1.out HZ2.out rfl (by omega) (v) (o.length) (flatF (o) ad (o.length)) (by rfl) (ROW.out.alloc _) ⟨W1.heap.size, 0, none⟩ 1 1 (cellsF f ((pf, pfc), (tf, tfc))) (by rfl) (by rfl) (World.news_of_block (cs := #[.string f.1, .int .i64 f.2.1, .slice pf f.2.2.1.length pfc, .slice tf f.2.2.2.length tfc]) (t := 57) (fr := (0, 0)) (heap_alloc_new W1 _)) (by simp [Value.oneCell', cellsF]) (by omega) (by unfold maxLen; omega) (by omega) (by simp; omega) (W1.heap.size + 1) (by simp) ?_; intro gg1 cap1 wa1 hown1 hgrow1 hat1 hlt1; clear ROW; have vw : (v).ownBlock ≠ some w.heap.size := (fun e => by have := HV.out _ e; omega); replace HR : Hid (Row wa1 (fun x => x < w.heap.size) (w.heap.size + 1) (Value.slice (some ⟨gg1, 0, none⟩) (o.length + 1) cap1) (o ++ [f]).length (o ++ [f]) (plSet ad (o.length) ((pf, pfc), (tf, tfc)))) := HR.out.snoc FPr.out (PF.out.imp (fun h => h) fun q x hx => ⟨q x hx, by have := q x hx; omega, fun e => by have h1 := HV.out x e; have h2 := q x hx; omega⟩) FTr.out (TF.out.imp (fun h => h) fun q x hx => ⟨q x hx, by have := q x hx; omega, fun e => by have h1 := HV.out x e; have h2 := q x hx; omega⟩) (by simpa using hown1) hgrow1 hat1; replace HBX := Lib.hid (BoxF.grown HBX.out hgrow1 vw); replace HB : Hid (Below w.heap.size w wa1) := (HB.out.alloc HB.out.size _).grown hgrow1 (by simp; omega) (fun x hx => by have := HV.out x hx; omega); have vb : (v).ownBlock ≠ some b := (fun e => by have := HV.out b e; omega); replace hc1 := HGF_cell hgrow1 hblt hc1 vb; replace hc2 := HGF_cell hgrow1 hblt hc2 vb; replace hc3 := HGF_cell hgrow1 hblt hc3 vb; replace hc4 := HGF_cell hgrow1 hblt hc4 vb; replace x0 := HGF_cell hgrow1 hsz x0 vw; replace x1 := HGF_cell hgrow1 hsz x1 vw; replace x2 := HGF_cell hgrow1 hsz x2 vw; replace x3 := HGF_cell hgrow1 hsz x3 vw; replace D1 := Lib.hid (PtsKeep D1.out hgrow1 (PL.out.imp (fun h => h) fun q x hx e => by have h1 := q x hx; have h2 := HV.out x e; omega)); replace D2 := Lib.hid (TagsKeep D2.out hgrow1 (TL.out.imp (fun h => h) fun q x hx e => by have h1 := q x hx; have h2 := HV.out x e; omega)); replace FPr := Lib.hid (PtsKeep FPr.out hgrow1 (PF.out.imp (fun h => h) fun q x hx e => by have h1 := q x hx; have h2 := HV.out x e; omega)); replace FTr := Lib.hid (TagsKeep FTr.out hgrow1 (TF.out.imp (fun h => h) fun q x hx e => by have h1 := q x hx; have h2 := HV.out x e; omega)); have hszA : W1.heap.size < wa1.heap.size := (by have h := hgrow1.size; simp at h; omega); replace hsz : w.heap.size < wa1.heap.size := (by omega); replace hblt : b < wa1.heap.size := (by omega); replace HV : Hid (∀ x, (Value.slice (some ⟨gg1, 0, none⟩) (o.length + 1) cap1).ownBlock = some x → w.heap.size + 1 ≤ x) := (fun x e => (hown1.lt x e).1); clear vb; clear hown1 hgrow1 hat1 vw)
            go_wp2
            go_quiet (fail)
            have Bq : Below wa1.heap.size wa1 (wa1.drewN nq) := below_drewN (Below.refl _ _) nq
            have zq : (wa1.drewN nq).heap.size = wa1.heap.size := rfl
            generalize wa1.drewN nq = W2 at *
            replace HR := Lib.hid (HR.out.below Bq)
            replace HBX := Lib.hid (HBX.out.later Bq)
            replace HB := Lib.hid (HB.out.trans (Bq.mono HB.out.size))
            replace FPr := Lib.hid (FPr.out.below Bq)
            replace FTr := Lib.hid (FTr.out.below Bq)
            replace D1 := Lib.hid (D1.out.below Bq)
            replace D2 := Lib.hid (D2.out.below Bq)
            replace hc1 := cell_later Bq hc1
            replace hc2 := cell_later Bq hc2
            replace hc3 := cell_later Bq hc3
            replace hc4 := cell_later Bq hc4
            replace x0 := cell_later Bq x0
            replace x1 := cell_later Bq x1
            replace x2 := cell_later Bq x2
            replace x3 := cell_later Bq x3
            replace hsz : w.heap.size < W2.heap.size := by omega
            replace hblt : b < W2.heap.size := by omega
            clear Bq zq
            have hROW := HR.out.row
            rw [show (o ++ [f]).length = o.length + 1 by simp] at hROW
            have ROW := Lib.hid hROW
            clear hROW
            go_wp2_with (at_builtin; refine wpList_append_lies _ (by rfl) _ _ _ (by rfl) (w.heap.size + 1) 57 i0 _ 4 72 Tryz.underlying26 HI.out HZ0.out HZ1.out HZ2.out rfl (by omega) (Value.slice (some ⟨gg1, 0, none⟩) (o.length + 1) cap1) (o.length + 1) (flatF ((o ++ [f])) (plSet ad (o.length) ((pf, pfc), (tf, tfc))) (o.length + 1)) (by rfl) (ROW.out.alloc _) ⟨W2.heap.size, 0, none⟩ 1 1 (cellsF (fg fs j) ((pa, pc), (ta, tc))) (by rfl) (by rfl) (World.news_of_block (cs := #[.string (fid fs j), .int .i64 (fkd fs j), .slice pa (fps fs j).length pc, .slice ta (fts fs j).length tc]) (t := 57) (fr := (0, 0)) (heap_alloc_new W2 _)) (by simp [Value.oneCell', cellsF]) (by omega) (by unfold maxLen; omega) (by omega) (by simp; omega) (W2.heap.size + 1) (by simp) ?_; intro gg2 cap2 wa2 hown2 hgrow2 hat2 hlt2; clear ROW; have vw : (Value.slice (some ⟨gg1, 0, none⟩) (o.length + 1) cap1).ownBlock ≠ some w.heap.size := (fun e => by have := HV.out _ e; omega); replace HR : Hid (Row wa2 (fun x => x < w.heap.size) (w.heap.size + 1) (Value.slice (some ⟨gg2, 0, none⟩) ((o ++ [f]).length + 1) cap2) ((o ++ [f]) ++ [(fg fs j)]).length ((o ++ [f]) ++ [(fg fs j)]) (plSet (plSet ad (o.length) ((pf, pfc), (tf, tfc))) ((o ++ [f]).length) ((pa, pc), (ta, tc)))) := HR.out.snoc D1.out (PL.out.imp (fun h => h) fun q x hx => ⟨q x hx, by have := q x hx; omega, fun e => by have h1 := HV.out x e; have h2 := q x hx; omega⟩) D2.out (TL.out.imp (fun h => h) fun q x hx => ⟨q x hx, by have := q x hx; omega, fun e => by have h1 := HV.out x e; have h2 := q x hx; omega⟩) (by simpa using hown2) hgrow2 hat2; replace HBX := Lib.hid (BoxF.grown HBX.out hgrow2 vw); replace HB : Hid (Below w.heap.size w wa2) := (HB.out.alloc HB.out.size _).grown hgrow2 (by simp; omega) (fun x hx => by have := HV.out x hx; omega); clear hown2 hgrow2 hat2 vw)
            go_roundw
            case rel => exact ⟨j + 1, _, o ++ [f] ++ [fg fs j], _, _, by omega, by go_num, rfl, by simp, HS.out, by simp; omega, HR.out, HBX.out, HB.out⟩
            case measure => simp [intOf]; omega
          · replace hol : o.length ≤ j + 1 := hol
            have HS : Hid (PutsL fs f (j + 1) (o ++ [fg fs j]) true) := by simpa [Hid, hk] using hst
            clear hst he hle hq hk
            go_wp2
            go_quiet (fail)
            have Bq : Below wr.heap.size wr (wr.drewN nq) := below_drewN (Below.refl _ _) nq
            have zq : (wr.drewN nq).heap.size = wr.heap.size := rfl
            generalize wr.drewN nq = W1 at *
            replace HR := Lib.hid (HR.out.below Bq)
            replace HBX := Lib.hid (HBX.out.later Bq)
            replace HB := Lib.hid (HB.out.trans (Bq.mono HB.out.size))
            replace FPr := Lib.hid (FPr.out.below Bq)
            replace FTr := Lib.hid (FTr.out.below Bq)
            replace D1 := Lib.hid (D1.out.below Bq)
            replace D2 := Lib.hid (D2.out.below Bq)
            replace hc1 := cell_later Bq hc1
            replace hc2 := cell_later Bq hc2
            replace hc3 := cell_later Bq hc3
            replace hc4 := cell_later Bq hc4
            replace x0 := cell_later Bq x0
            replace x1 := cell_later Bq x1
            replace x2 := cell_later Bq x2
            replace x3 := cell_later Bq x3
            replace hsz : w.heap.size < W1.heap.size := by omega
            replace hblt : b < W1.heap.size := by omega
            clear Bq zq
            go_wp2
            go_quiet (fail)
            have Bq : Below W1.heap.size W1 (W1.drewN nq) := below_drewN (Below.refl _ _) nq
            have zq : (W1.drewN nq).heap.size = W1.heap.size := rfl
            generalize W1.drewN nq = W2 at *
            replace HR := Lib.hid (HR.out.below Bq)
            replace HBX := Lib.hid (HBX.out.later Bq)
            replace HB := Lib.hid (HB.out.trans (Bq.mono HB.out.size))
            replace FPr := Lib.hid (FPr.out.below Bq)
            replace FTr := Lib.hid (FTr.out.below Bq)
            replace D1 := Lib.hid (D1.out.below Bq)
            replace D2 := Lib.hid (D2.out.below Bq)
            replace hc1 := cell_later Bq hc1
            replace hc2 := cell_later Bq hc2
            replace hc3 := cell_later Bq hc3
            replace hc4 := cell_later Bq hc4
            replace x0 := cell_later Bq x0
            replace x1 := cell_later Bq x1
            replace x2 := cell_later Bq x2
            replace x3 := cell_later Bq x3
            replace hsz : w.heap.size < W2.heap.size := by omega
            replace hblt : b < W2.heap.size := by omega
            clear Bq zq
            have ROW := Lib.hid HR.out.row
            go_wp2_with (at_builtin; refine wpList_append_lies _ (by rfl) _ _ _ (by rfl) (w.heap.size + 1) 57 i0 _ 4 72 Tryz.underlying26 HI.out HZ0.out HZ1.out HZ2.out rfl (by omega) (v) (o.length) (flatF (o) ad (o.length)) (by rfl) (ROW.out.alloc _) ⟨W2.heap.size, 0, none⟩ 1 1 (cellsF (fg fs j) ((pa, pc), (ta, tc))) (by rfl) (by rfl) (World.news_of_block (cs := #[.string (fid fs j), .int .i64 (fkd fs j), .slice pa (fps fs j).length pc, .slice ta (fts fs j).length tc]) (t := 57) (fr := (0, 0)) (heap_alloc_new W2 _)) (by simp [Value.oneCell', cellsF]) (by omega) (by unfold maxLen; omega) (by omega) (by simp; omega) (W2.heap.size + 1) (by simp) ?_; intro gg2 cap2 wa2 hown2 hgrow2 hat2 hlt2; clear ROW; have vw : (v).ownBlock ≠ some w.heap.size := (fun e => by have := HV.out _ e; omega); replace HR : Hid (Row wa2 (fun x => x < w.heap.size) (w.heap.size + 1) (Value.slice (some ⟨gg2, 0, none⟩) (o.length + 1) cap2) (o ++ [(fg fs j)]).length (o ++ [(fg fs j)]) (plSet ad (o.length) ((pa, pc), (ta, tc)))) := HR.out.snoc D1.out (PL.out.imp (fun h => h) fun q x hx => ⟨q x hx, by have := q x hx; omega, fun e => by have h1 := HV.out x e; have h2 := q x hx; omega⟩) D2.out (TL.out.imp (fun h => h) fun q x hx => ⟨q x hx, by have := q x hx; omega, fun e => by have h1 := HV.out x e; have h2 := q x hx; omega⟩) (by simpa using hown2) hgrow2 hat2; replace HBX := Lib.hid (BoxF.grown HBX.out hgrow2 vw); replace HB : Hid (Below w.heap.size w wa2) := (HB.out.alloc HB.out.size _).grown hgrow2 (by simp; omega) (fun x hx => by have := HV.out x hx; omega); clear hown2 hgrow2 hat2 vw)
            go_roundw
            case rel => exact ⟨j + 1, _, o ++ [fg fs j], _, _, by omega, by go_num, rfl, rfl, HS.out, by simp; omega, HR.out, HBX.out, HB.out⟩
            case measure => simp [intOf]; omega
    · obtain rfl : j = fs.length := by omega
      have HD := Lib.hid hP.done
      clear hro hbel hP
      cases q
      · replace hol : o.length ≤ fs.length := hol
        have ROW := Lib.hid HR.out.row
        go_wp2_with (at_builtin; refine wpList_append_lies _ (by rfl) _ _ _ (by rfl) (w.heap.size + 1) 57 i0 _ 4 72 Tryz.underlying26 HI.out HZ0.out HZ1.out HZ2.out rfl (by omega) (v) (o.length) (flatF (o) ad (o.length)) (by rfl) (ROW.out.alloc _) ⟨wr.heap.size, 0, none⟩ 1 1 (cellsF f ((pf, pfc), (tf, tfc))) (by rfl) (by rfl) (World.news_of_block (cs := #[.string f.1, .int .i64 f.2.1, .slice pf f.2.2.1.length pfc, .slice tf f.2.2.2.length tfc]) (t := 57) (fr := (0, 0)) (heap_alloc_new wr _)) (by simp [Value.oneCell', cellsF]) (by omega) (by unfold maxLen; omega) (by omega) (by simp; omega) (wr.heap.size + 1) (by simp) ?_; intro gg1 cap1 wa1 hown1 hgrow1 hat1 hlt1; clear ROW; have vw : (v).ownBlock ≠ some w.heap.size := (fun e => by have := HV.out _ e; omega); replace HR : Hid (Row wa1 (fun x => x < w.heap.size) (w.heap.size + 1) (Value.slice (some ⟨gg1, 0, none⟩) (o.length + 1) cap1) (o ++ [f]).length (o ++ [f]) (plSet ad (o.length) ((pf, pfc), (tf, tfc)))) := HR.out.snoc FPr.out (PF.out.imp (fun h => h) fun q x hx => ⟨q x hx, by have := q x hx; omega, fun e => by have h1 := HV.out x e; have h2 := q x hx; omega⟩) FTr.out (TF.out.imp (fun h => h) fun q x hx => ⟨q x hx, by have := q x hx; omega, fun e => by have h1 := HV.out x e; have h2 := q x hx; omega⟩) (by simpa using hown1) hgrow1 hat1; replace HBX := Lib.hid (BoxF.grown HBX.out hgrow1 vw); replace HB : Hid (Below w.heap.size w wa1) := (HB.out.alloc HB.out.size _).grown hgrow1 (by simp; omega) (fun x hx => by have := HV.out x hx; omega); clear hown1 hgrow1 hat1 vw)
        go_wp2
        go_ret
        have e : o ++ [f] = putL fs f := by simpa using HD.out
        have hr := HR.out
        rw [e] at hr
        obtain ⟨a', cap', e', hF, _⟩ := hr.reads
        first | exact ⟨⟨a', cap', congrArg Ending.returned e', hF⟩, HB.out⟩ | exact ⟨⟨a', ⟨cap', congrArg Ending.returned e'⟩, hF⟩, HB.out⟩
      · have e : o = putL fs f := by simpa using HD.out
        have hr := HR.out
        rw [e] at hr
        obtain ⟨a', cap', rfl, hF, _⟩ := hr.reads
        have HF := Lib.hid hF
        clear hF hr HR HV
        go_wp2
        go_ret
        first | exact ⟨⟨a', cap', rfl, HF.out⟩, HB.out⟩ | exact ⟨⟨a', ⟨cap', rfl⟩, HF.out⟩, HB.out⟩

end Go.Proofs.YtelimcknhaflfaaGreat
