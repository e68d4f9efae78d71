/- Laid here: the numbers and facts of this program at which the contracts of maps.Clone and maps.Copy are taken; no condition. Proved here: the function that marks a list of things does so thing by thing; lists of at most 1,048,576 things, points and tags. Proved here: the model's look for a name among things answers the place of the first, or -1; lists of at most 1,048,576 things. Proved here: appending nothing to an empty row leaves it; the model's copy of a shape, with points or without; at most 1,048,576 points. Proved here: the library's copy of a list of points and of a list of tags, with any number of them, lies in memory of its own; at most 1,048,576 of them. Proved here: the program's copy of a thing lies in memory of its own; at most 1,048,576 points and tags. Proved here: the model's copy of a thing ends whatever its lists hold, and holds the same points; at most 1,048,576 points and tags. Proved here: the library's function that holds two lists of texts against each other answers whether they are the same; lists of at most 1,048,577 texts. Proved here: the program's way of asking whether things are a map, by a map told in order, answers as the plain definition 'sheetOk' says; lists of at most 1,048,576 things, points and tags, texts of at most 1,048,576 bytes. Proved here: the model's thing of a name is a copy of the first of that name, in memory of its own; lists of at most 1,048,576 things, points and tags, texts of at most 1,048,576 bytes. -/
import Derived.Shelf.SlMaps.Clone
import Derived.Shelf.SlMaps.Copy
import Derived.Test.YtccgbengfmlgbaaGreatRows
import Derived.Test.YtccgbengfmlgbaaGreatWMarkList
import Derived.Test.YtccgbengfmlgbaaGreatWSheetOk
import Derived.Test.YtccgbengfmlgbaaGreatWCopyF
import Derived.Deep.RegionHeld3
import Derived.Deep.DeepCutAuto
import Derived.Test.YtccgbengfmlgbaaGreatWByName
namespace Go.Proofs
open Go.Shelf
def Tryz.cloneF_ren : Go.Shelf.Ren := ⟨fun | 5 => 78 | 7 => 125 | n => n, fun | 23 => 92 | 25 => 9 | 3 => 34 | 4 => 4 | 20 => 20 | n => n, fun | n => n⟩
theorem Tryz.cloneF : Go.Proofs.SlLaysW.n5 Tryz.prog Tryz.cloneF_ren := {
  mixed := by kernel_rfl
  f5 := ⟨Tryz.f78.name, by decide, Tryz.func78.trans (congrArg some (by kernel_rfl))⟩
  f7 := Tryz.func125.trans (congrArg some (by kernel_rfl))
  t4 := Tryz.underlying4
  a4 := Tryz.isAgg4
  z4 := Tryz.sizeOf4
  v4 := Tryz.zeroValue4
  t20 := Tryz.underlying20
  a20 := Tryz.isAgg20
  z20 := Tryz.sizeOf20
  v20 := Tryz.zeroValue20
  t23 := Tryz.underlying92
  a23 := Tryz.isAgg92
  z23 := Tryz.sizeOf92
  v23 := Tryz.zeroValue92 }
end Go.Proofs

namespace Go.Proofs.YtccgbengfmlgbaaGreat
set_option linter.unusedVariables false
open Go.ChangeShapes Go.WideShapes Go.ChangeAt Go.RowKit

set_option maxRecDepth 100000 in
set_option maxHeartbeats 4000000 in
theorem markFeatS_some (b off cap : Nat) (fs : List Ft) (ad : Nat → Pl) (k : Int) (w : World) (hl : fs.length ≤ 1048576) (hL : FeatsLen fs 1048576) (h0 : 0 ≤ k) (h4 : k ≤ 1000000000000000) (hlie : Lies w b off fs ad) (hsep : Sep b fs.length ad) :
    Calls Tryz.prog 23 #[.slice (some ⟨b, off, none⟩) fs.length cap, .int .i64 k] w fun e w' => e = .returned (.int .i64 (lmk fs k fs.length)) ∧ Lies w' b off (lmkTo fs k fs.length) ad ∧ Turned w w' (blocksOf b fs.length ad) := by
  have HL := Lib.hid hL
  have HLie : Hid (Lies w b off (lmkTo fs k 0) ad) := by rw [lmkTo_zero]; exact hlie
  have HS := Lib.hid hsep
  clear hL hlie hsep
  go_enter Tryz.func23, Tryz.ntmps23
  go_wp2
  go_loopw [1, 5] (fun s1 i wr => ∃ j : Nat, j ≤ fs.length ∧ s1 = .int .i64 (lmk fs k j) ∧ i = .int .i64 j ∧ Lies wr b off (lmkTo fs k j) ad ∧ Turned w wr (blocksOf b fs.length ad)) (fun _ i _ => fs.length - (intOf i).toNat)
  case atStart => exact ⟨0, Nat.zero_le _, rfl, rfl, HLie.out, Turned.refl _ _⟩
  case round =>
    clear HLie
    obtain ⟨j, hj, rfl, rfl, hlie, htu⟩ := hrel
    have HLi := Lib.hid hlie
    have HT := Lib.hid htu
    have blt := hlie.lt
    clear hlie htu
    obtain ⟨k0, k1⟩ := lmk_le h0 h4 HL.out j hj
    by_cases hlt : j < fs.length
    · obtain ⟨l1, l2, l3, l4⟩ := HL.out j hlt
      clear l4
      have hlj : j < (lmkTo fs k j).length := by rw [lmkTo_len]; exact hlt
      go_wp2_with fail
      refine (markText_any _ _ (by omega)).mono ?_
      rintro e w1 ⟨rfl, hb1⟩
      have L1 := Lib.hid (HLi.out.below hb1)
      have T1 : Hid (Turned w w1 (blocksOf b fs.length ad)) := HT.out.trans (Turned.of_below hb1)
      clear hb1 HLi HT
      obtain ⟨c0, c1, c2, c3⟩ := L1.out.cell j hlj
      obtain ⟨f0, f1⟩ := L1.out.soft j hlj
      rw [(lmkTo_pl k j hlt).1] at c2
      rw [(lmkTo_pl k j hlt).2] at c3
      have ob1 : blk (ad j).1.1 ≠ some b := (HS.out.own j hlt).1
      have ob2 : blk (ad j).2.1 ≠ some b := (HS.out.own j hlt).2
      go_wp2_with fail
      generalize h3 : (w1.setCell ⟨b, off + j * 4, none⟩ (.string (markT (lmk fs k j)))).setCell ⟨b, off + j * 4 + 1, none⟩ (.int .i64 (lmk fs k j + 1)) = w3
      have t3 : Turned w1 w3 (fun x => x = b) := by
        rw [← h3]
        exact (Turned.of_set (S := fun x => x = b) w1 _ _ rfl).trans (Turned.of_set _ _ _ rfl)
      have hpl : fps (lmkTo fs k j) j = fps fs j := by unfold fps; rw [lmkTo_at k j hlt, if_neg (by omega)]
      have htl : fts (lmkTo fs k j) j = fts fs j := by unfold fts; rw [lmkTo_at k j hlt, if_neg (by omega)]
      obtain ⟨p1, p2⟩ := L1.out.pts j hlj
      obtain ⟨q1, q2⟩ := L1.out.tags j hlj
      rw [hpl] at p1 p2
      rw [htl] at q1 q2
      have np : ∀ x, blk (ad j).1.1 = some x → ¬ x = b := fun x hx e => ob1 (e ▸ hx)
      have nt : ∀ x, blk (ad j).2.1 = some x → ¬ x = b := fun x hx e => ob2 (e ▸ hx)
      have P3 := Lib.hid (p1.turned t3 np)
      have P3s := Lib.hid (p2.turnedP p1 t3 np)
      have Q3 := Lib.hid (q1.turned t3 nt)
      have Q3s := Lib.hid (q2.turnedT q1 t3 nt)
      have c3' : w3.cell? ⟨b, off + j * 4 + 3, none⟩ = some (.slice (ad j).2.1 (fts fs j).length (ad j).2.2) := by
        rw [← h3, World.cell?_setCell_other _ _ _ _ (by simp), World.cell?_setCell_other _ _ _ _ (by simp)]
        exact c3
      have T3 : Hid (Turned w w3 (blocksOf b fs.length ad)) := T1.out.trans ⟨t3.os, t3.tape, t3.output, t3.size, fun x hx hn => t3.block x hx (fun e => hn (.inl e))⟩
      have H3 := Lib.hid h3
      clear h3 t3 p1 p2 q1 q2 hpl htl c0 c1 c2 c3 f0 f1 T1 np nt
      refine (markPtS_any _ _ _ _ _ P3.out P3s.out (by omega) (by omega) (by omega)).mono ?_
      rintro e w4 ⟨rfl, g1, g2, g3, g4⟩
      have Q4 : Hid (TagsAt w4 (ad j).2.1 (fts fs j)) := Q3.out.turned (S := fun x => blk (ad j).1.1 = some x) (Turned.of_grown g3 fun x hx => hx) fun x hx he => HS.out.two j hlt x he hx
      have Q4s : Hid (Soft w4 (ad j).2.1 (fts fs j).length) := Q3s.out.turnedT Q3.out (S := fun x => blk (ad j).1.1 = some x) (Turned.of_grown g3 fun x hx => hx) fun x hx he => HS.out.two j hlt x he hx
      replace c3' : w4.cell? ⟨b, off + j * 4 + 3, none⟩ = some (.slice (ad j).2.1 (fts fs j).length (ad j).2.2) := g3.cell c3' (fun e => ob1 e.symm)
      have T4 : Hid (Turned w w4 (blocksOf b fs.length ad)) := T3.out.trans (Turned.of_grown g3 fun x hx => .inr ⟨j, hlt, .inl hx⟩)
      have G1 := Lib.hid g1
      have G2 := Lib.hid g2
      have G3 := Lib.hid g3
      clear g1 g2 g3 g4 T3 Q3 Q3s P3 P3s
      go_wp2_with fail
      refine (markTagS_any _ _ _ _ _ Q4.out Q4s.out (by omega) (by omega) (by omega)).mono ?_
      rintro e w5 ⟨rfl, r1, r2, r3⟩
      have e2 : lmk fs k j + 1 + 1 = lmk fs k j + 2 := by omega
      rw [e2] at r1
      have G1' := G1.out
      rw [e2] at G1'
      have L5 : Hid (Lies w5 b off (lmkTo fs k (j + 1)) ad) := L1.out.step hlt HS.out H3.out.symm G1' G2.out G3.out r1 r2 r3
      have T5 : Hid (Turned w w5 (blocksOf b fs.length ad)) := T4.out.trans (Turned.of_grown r3 fun x hx => .inr ⟨j, hlt, .inr hx⟩)
      clear r1 r2 r3 c3' G1'
      go_wp2
      go_roundw
      case rel => exact ⟨j + 1, by omega, congrArg (Value.int .i64) (by show _ = lmk fs k j + 2 + 2 * ((fps fs j).length : Int) + 2 * ((fts fs j).length : Int); omega), by go_num, L5.out, T5.out⟩
      case measure => simp [intOf]; omega
    · obtain rfl : j = fs.length := by omega
      go_wp2
      go_ret
      exact ⟨rfl, HLi.out, HT.out⟩
end Go.Proofs.YtccgbengfmlgbaaGreat

namespace Go.Proofs.YtccgbengfmlgbaaGreat
set_option linter.unusedVariables false
open Go.ChangeShapes Go.WideShapes Go.ChangeAt Go.RowKit

/-- the place of the first thing of a name; where there is none, how many there are -/
def firstF (fs : List Ft) (id : ByteArray) : Nat := fs.findIdx (fun f => decide (f.1 = id))

theorem fid_get {fs : List Ft} {i : Nat} (h : i < fs.length) : fs[i].1 = fid fs i := by unfold fid; rw [fg_get h]

theorem firstF_hit {fs : List Ft} {id : ByteArray} {k : Nat} (hk : k < fs.length) (h : fid fs k = id) (hall : ∀ j, j < k → fid fs j ≠ id) : firstF fs id = k := by
  unfold firstF
  rw [List.findIdx_eq hk]
  refine ⟨by simp [fid_get hk, h], fun j hj => ?_⟩
  have := hall j hj
  rw [← fid_get (by omega)] at this
  simpa using this

theorem firstF_miss {fs : List Ft} {id : ByteArray} (hall : ∀ j, j < fs.length → fid fs j ≠ id) : firstF fs id = fs.length := by
  unfold firstF
  rw [List.findIdx_eq_length]
  intro x hx
  obtain ⟨i, hi, rfl⟩ := List.getElem_of_mem hx
  have := hall i hi
  rw [← fid_get hi] at this
  simpa using this

theorem firstF_at {fs : List Ft} {id : ByteArray} (h : firstF fs id < fs.length) : fid fs (firstF fs id) = id := by
  have := List.findIdx_getElem (p := fun f : Ft => decide (f.1 = id)) (xs := fs) (w := h)
  rw [← fid_get h]
  exact of_decide_eq_true this

/-- what the look answers -/
def findV (fs : List Ft) (id : ByteArray) : Int := if firstF fs id < fs.length then (firstF fs id : Int) else -1

set_option maxHeartbeats 2000000 in
theorem l3Find_any (a : Option Addr) (cap : Nat) (fs : List Ft) (id : ByteArray) (w : World) (hp : FeatsAt w a fs) (hl : fs.length ≤ 1048576) :
    Calls Tryz.prog 144 #[.slice a fs.length cap, .string id] w fun e w' => e = .returned (.int .i64 (findV fs id)) ∧ w = w' := by
  have HP := Lib.hid hp
  clear hp
  go_enter Tryz.func144, Tryz.ntmps144
  go_wp2
  go_loopw [5] (fun i wr => ∃ k : Nat, k ≤ fs.length ∧ i = .int .i64 k ∧ w = wr ∧ ∀ j, j < k → fid fs j ≠ id) (fun i _ => fs.length - (intOf i).toNat)
  case atStart => exact ⟨0, Nat.zero_le _, rfl, rfl, fun j h => absurd h (Nat.not_lt_zero _)⟩
  case round =>
    obtain ⟨k, hk, rfl, rfl, hall⟩ := hrel
    have HA := Lib.hid hall
    clear hall
    by_cases hlt : k < fs.length
    · obtain ⟨b, off, pa, pc, ta, tc, rfl, hb, hc1, _⟩ := HP.out k hlt
      have hbq := bytes_beq (fid fs k) id
      by_cases hs : fid fs k = id
      · rw [decide_eq_true hs] at hbq
        have HS : Hid (findV fs id = (k : Int)) := by
          have := firstF_hit hlt hs HA.out
          show _ = _
          unfold findV
          rw [this, if_pos hlt]
        clear hs
        go_wp2
        go_ret
        exact ⟨congrArg (fun x => Ending.returned (Value.int .i64 x)) HS.out.symm, rfl⟩
      · rw [decide_eq_false hs] at hbq
        have HS := Lib.hid hs
        clear hs
        go_wp2
        go_roundw
        case rel => exact ⟨k + 1, by omega, by go_num, by trivial, fun j hj => by by_cases e : j = k; (subst e; exact HS.out); exact HA.out j (by omega)⟩
        case measure => simp [intOf]; omega
    · obtain rfl : k = fs.length := by omega
      have HS : Hid (findV fs id = -1) := by
        have := firstF_miss HA.out
        show _ = _
        unfold findV
        rw [this, if_neg (by omega)]
      go_wp2
      go_ret
      exact ⟨congrArg (fun x => Ending.returned (Value.int .i64 x)) HS.out.symm, rfl⟩
end Go.Proofs.YtccgbengfmlgbaaGreat

namespace Go.Proofs.YtccgbengfmlgbaaGreat
set_option linter.unusedVariables false
open Go.ChangeShapes Go.WideShapes Go.ChangeAt Go.RowKit Go.Deep

theorem run_append0 {P : Program} (w : World) (t ty e : TypeId) (i : TypeInfo) (ht : P.underlying t = some (.slice e)) (hi : P.info? e = some i) (g c : Nat) (a : Option Addr) :
    (Builtin.append_ #[t, t] ty #[.slice (some ⟨g, 0, none⟩) 0 0, .slice a 0 c]).run P w = .ok (.slice (some ⟨g, 0, none⟩) 0 0) w := by
  cases a with
  | none => simp [Builtin.append_, run_underlying ht, sizeOf, typeInfo, hi, Builtin.lenOf, Builtin.firstCells, loadCells, loadCellsFrom, storeCells]
  | some x => simp [Builtin.append_, run_underlying ht, sizeOf, typeInfo, hi, Builtin.lenOf, Builtin.firstCells, loadCells, loadCellsFrom, storeCells]

/-- at a step of a region that draws its order -/
theorem step_append0 {P : Program} (w : World) {ops : Array Oper} {o : Oper} {a : Act} {K : Act → World → Prop} {Q : Exit → Act → World → Prop} {E : Prop} (hgd : o.guard = none) (s x : Operand) (t : TypeId)
    (ho : o.op = .call { callee := .builtin .append, args := #[s, x], argTypes := #[t, t] }) (e : TypeId) (i : TypeInfo) (ht : P.underlying t = some (.slice e)) (hi : P.info? e = some i)
    (g c : Nat) (ad : Option Addr) (hs : a.eval s = .slice (some ⟨g, 0, none⟩) 0 0) (hx : a.eval x = .slice ad 0 c)
    (h : K (a.put o.dst (.slice (some ⟨g, 0, none⟩) 0 0)) w) : if Region.wanted o (yielded ops a.tmps) = true then Oper.wp P o a w K Q else E := by
  have hw : Region.wanted o (yielded ops a.tmps) = true := by simp [Region.wanted, hgd]
  rw [if_pos hw]
  have hr := run_append0 (P := P) w t o.type e i ht hi g c ad
  unfold Oper.wp execOp
  simp only [ho, resolve, invoke, builtin, Sem.run_bind, Sem.run_pure, Result.andThen_ok, List.map_toArray, List.map_cons, List.map_nil, hs, hx, hr]
  exact h

set_option maxHeartbeats 2000000 in
theorem l1Copy_nil (k : Int) (a : Option Addr) (cap : Nat) (w : World) :
    Calls Tryz.prog 86 #[.agg #[.int .i64 k, .slice a 0 cap]] w fun e w' => ∃ g, e = .returned (.agg #[.int .i64 k, .slice (some ⟨g, 0, none⟩) 0 0]) ∧ Below w.heap.size w w' := by
  obtain ⟨i0, hi, hz0, hz1, hz2⟩ := info_parts infoPt
  have HI := Lib.hid hi
  clear hi hz0 hz1 hz2
  go_enter Tryz.func86, Tryz.ntmps86
  go_wp2
  go_region_law (refine step_append0 _ (by rfl) _ _ _ (by rfl) 141 i0 Tryz.underlying29 HI.out _ _ _ (by rfl) (by rfl) ?_)
  all_goals go_wp2
  all_goals refine bodyPost_ret (v := .agg #[.int .i64 k, .slice (some ⟨w.heap.size + 1 + 1, 0, none⟩) 0 0]) (by simp [results, Tryz.results86, go_sem]) rfl ⟨_, rfl, ?_⟩
  all_goals exact ((((Below.refl _ _).alloc (Nat.le_refl _) _).alloc (by simp) _).alloc (by simp; omega) _).drew
end Go.Proofs.YtccgbengfmlgbaaGreat

namespace Go.Proofs.YtccgbengfmlgbaaGreat
set_option linter.unusedVariables false
open Go.ChangeShapes Go.WideShapes Go.ChangeAt Go.RowKit Go.Deep

theorem wpList_append0 {P : Program} {w : World} {ops : Array Oper} {rest : List Oper} {o : Oper} {a : Act} {Q : Exit → Act → World → Prop} (hgd : o.guard = none) (s x : Operand) (t : TypeId)
    (ho : o.op = .call { callee := .builtin .append, args := #[s, x], argTypes := #[t, t] }) (e : TypeId) (i : TypeInfo) (ht : P.underlying t = some (.slice e)) (hi : P.info? e = some i)
    (g c : Nat) (ad : Option Addr) (hs : a.eval s = .slice (some ⟨g, 0, none⟩) 0 0) (hx : a.eval x = .slice ad 0 c)
    (h : wpList P ops Q rest (a.put o.dst (.slice (some ⟨g, 0, none⟩) 0 0)) w) : wpList P ops Q (o :: rest) a w :=
  wpList_plain hgd fun _ hK => by
    have hr := run_append0 (P := P) w t o.type e i ht hi g c ad
    unfold Oper.wp execOp
    simp only [ho, resolve, invoke, builtin, Sem.run_bind, Sem.run_pure, Result.andThen_ok, List.map_toArray, List.map_cons, List.map_nil, hs, hx, hr]
    exact hK _ _ h


/-- what a copy of points answers -/
def CloneP (w : World) (xs : List (Int × Int)) (e : Ending) (w' : World) : Prop :=
  ∃ g c, e = .returned (.slice g xs.length c) ∧ PtsAt w' g xs ∧ Soft w' g xs.length ∧ Fresh w w' g ∧ Below w.heap.size w w'

set_option maxRecDepth 100000 in
set_option maxHeartbeats 2000000 in
theorem cloneP_any (a : Option Addr) (cap : Nat) (xs : List (Int × Int)) (w : World) (hp : PtsAt w a xs) (hl : xs.length ≤ 1048576) :
    Calls Tryz.prog 102 #[.slice a xs.length cap] w (CloneP w xs) := by
  have HP := Lib.hid hp
  clear hp
  obtain ⟨i0, hi, hz0, hz1, hz2⟩ := info_parts infoPt
  have HI := Lib.hid hi
  have HZ0 := Lib.hid hz0
  have HZ1 := Lib.hid hz1
  have HZ2 := Lib.hid hz2
  clear hi hz0 hz1 hz2
  have heq := fun w => Lib.run_eql_slice_nil (P := Tryz.prog) w 29 141 a xs.length cap 0 0 Tryz.underlying29
  by_cases h0 : 0 < xs.length
  · obtain ⟨b, off, rfl, _⟩ := HP.out 0 h0
    go_enter Tryz.func102, Tryz.ntmps102
    go_wp2_with (at_builtin; refine wpList_append_lies _ (by rfl) _ _ _ (by rfl) w.heap.size 141 i0 _ 2 16 Tryz.underlying29 HI.out HZ0.out HZ1.out HZ2.out rfl (by omega) (.slice (some ⟨w.heap.size, 0, none⟩) 0 0) 0 [] (by rfl) (World.ownsRow_made w #[] 0 (Nat.le_refl _) (by unfold maxLen; omega) rfl) ⟨b, off, none⟩ xs.length cap (flat xs) (by rfl) (flat_len xs) (news_pts (HP.out.below ((Below.refl _ _).alloc (Nat.le_refl _) _))) (flat_one xs) h0 (by unfold maxLen; omega) (by omega) (by simp) (w.heap.size + 1) (by simp) ?_; intro gg cap' wa hown1 hgrow hat hlt')
    go_ret
    rw [Nat.zero_add, List.nil_append] at hown1
    obtain ⟨a2, cap2, e2, hpt, hso, hnew⟩ := owned_pts hown1 rfl
    obtain ⟨rfl, rfl⟩ : some ⟨gg, 0, none⟩ = a2 ∧ cap' = cap2 := by simpa using e2
    refine ⟨_, cap', rfl, hpt, hso, fun x hx => ⟨(hnew x hx).1, (hnew x hx).2⟩, ((Below.refl _ _).alloc (Nat.le_refl _) _).grown hgrow (by simp) (fun j e => by simp [Value.ownBlock] at e; omega)⟩
  · obtain rfl : xs = [] := List.eq_nil_of_length_eq_zero (by omega)
    clear h0 hl HP HZ0 HZ1 HZ2
    rw [show ([] : List (Int × Int)).length = 0 from rfl] at *
    cases a with
    | none =>
      go_enter Tryz.func102, Tryz.ntmps102
      go_wp2
      go_ret
      exact ⟨none, 0, rfl, PtsAt.nil _ _, fun i hi => absurd hi (Nat.not_lt_zero _), fun x hx => by simp [blk] at hx, Below.refl _ _⟩
    | some ad =>
      go_enter Tryz.func102, Tryz.ntmps102
      go_wp2_with (at_builtin; refine wpList_append0 (by rfl) _ _ _ (by rfl) 141 i0 Tryz.underlying29 HI.out w.heap.size cap (some ad) (by rfl) (by rfl) ?_)
      go_ret
      refine ⟨some ⟨w.heap.size, 0, none⟩, 0, rfl, PtsAt.nil _ _, fun i hi => absurd hi (Nat.not_lt_zero _), fun x hx => ?_, (Below.refl _ _).alloc (Nat.le_refl _) _⟩
      obtain rfl : w.heap.size = x := by simpa [blk] using hx
      exact ⟨Nat.le_refl _, by simp⟩

/-- what a copy of tags answers -/
def CloneT (w : World) (xs : List Tg) (e : Ending) (w' : World) : Prop :=
  ∃ g c, e = .returned (.slice g xs.length c) ∧ TagsAt w' g xs ∧ Soft w' g xs.length ∧ Fresh w w' g ∧ Below w.heap.size w w'

set_option maxRecDepth 100000 in
set_option maxHeartbeats 2000000 in
theorem cloneT_any (a : Option Addr) (cap : Nat) (xs : List Tg) (w : World) (hp : TagsAt w a xs) (hl : xs.length ≤ 1048576) :
    Calls Tryz.prog 103 #[.slice a xs.length cap] w (CloneT w xs) := by
  have HP := Lib.hid hp
  clear hp
  obtain ⟨i0, hi, hz0, hz1, hz2⟩ := info_parts infoT
  have HI := Lib.hid hi
  have HZ0 := Lib.hid hz0
  have HZ1 := Lib.hid hz1
  have HZ2 := Lib.hid hz2
  clear hi hz0 hz1 hz2
  have heq := fun w => Lib.run_eql_slice_nil (P := Tryz.prog) w 32 78 a xs.length cap 0 0 Tryz.underlying32
  by_cases h0 : 0 < xs.length
  · obtain ⟨b, off, rfl, _⟩ := HP.out 0 h0
    go_enter Tryz.func103, Tryz.ntmps103
    go_wp2_with (at_builtin; refine wpList_append_lies _ (by rfl) _ _ _ (by rfl) w.heap.size 78 i0 _ 2 32 Tryz.underlying32 HI.out HZ0.out HZ1.out HZ2.out rfl (by omega) (.slice (some ⟨w.heap.size, 0, none⟩) 0 0) 0 [] (by rfl) (World.ownsRow_made w #[] 0 (Nat.le_refl _) (by unfold maxLen; omega) rfl) ⟨b, off, none⟩ xs.length cap (flatT xs) (by rfl) (flatT_len xs) (news_tags (HP.out.below ((Below.refl _ _).alloc (Nat.le_refl _) _))) (flatT_one xs) h0 (by unfold maxLen; omega) (by omega) (by simp) (w.heap.size + 1) (by simp) ?_; intro gg cap' wa hown1 hgrow hat hlt')
    go_ret
    rw [Nat.zero_add, List.nil_append] at hown1
    obtain ⟨a2, cap2, e2, hpt, hso, hnew⟩ := owned_tags hown1 rfl
    obtain ⟨rfl, rfl⟩ : some ⟨gg, 0, none⟩ = a2 ∧ cap' = cap2 := by simpa using e2
    refine ⟨_, cap', rfl, hpt, hso, fun x hx => ⟨(hnew x hx).1, (hnew x hx).2⟩, ((Below.refl _ _).alloc (Nat.le_refl _) _).grown hgrow (by simp) (fun j e => by simp [Value.ownBlock] at e; omega)⟩
  · obtain rfl : xs = [] := List.eq_nil_of_length_eq_zero (by omega)
    clear h0 hl HP HZ0 HZ1 HZ2
    rw [show ([] : List Tg).length = 0 from rfl] at *
    cases a with
    | none =>
      go_enter Tryz.func103, Tryz.ntmps103
      go_wp2
      go_ret
      exact ⟨none, 0, rfl, TagsAt.nil _ _, fun i hi => absurd hi (Nat.not_lt_zero _), fun x hx => by simp [blk] at hx, Below.refl _ _⟩
    | some ad =>
      go_enter Tryz.func103, Tryz.ntmps103
      go_wp2_with (at_builtin; refine wpList_append0 (by rfl) _ _ _ (by rfl) 78 i0 Tryz.underlying32 HI.out w.heap.size cap (some ad) (by rfl) (by rfl) ?_)
      go_ret
      refine ⟨some ⟨w.heap.size, 0, none⟩, 0, rfl, TagsAt.nil _ _, fun i hi => absurd hi (Nat.not_lt_zero _), fun x hx => ?_, (Below.refl _ _).alloc (Nat.le_refl _) _⟩
      obtain rfl : w.heap.size = x := by simpa [blk] using hx
      exact ⟨Nat.le_refl _, by simp⟩
end Go.Proofs.YtccgbengfmlgbaaGreat

namespace Go.Proofs.YtccgbengfmlgbaaGreat
set_option linter.unusedVariables false
open Go.ChangeShapes Go.WideShapes Go.ChangeAt Go.RowKit Go.Deep

theorem TagsAt.turned2 {w w' : World} {a : Option Addr} {ts : List Tg} {S : Nat → Prop} (h : TagsAt w a ts) (ht : Turned w w' S) (hn : ts.length ≠ 0 → ∀ x, blk a = some x → ¬ S x) : TagsAt w' a ts := by
  intro i hi
  obtain ⟨b, off, rfl, hlt, h1, h2⟩ := h i hi
  exact ⟨b, off, rfl, Nat.lt_of_lt_of_le hlt ht.size, ht.cell h1 (hn (by omega) b rfl), ht.cell h2 (hn (by omega) b rfl)⟩

theorem TagsAt.set {w : World} {a : Option Addr} {ts : List Tg} (h : TagsAt w a ts) {c o : Nat} {v : Value} (hne : blk a ≠ some c) : TagsAt (w.setCell ⟨c, o, none⟩ v) a ts :=
  h.grown (r := some c) (grown_set (World.grownBy.refl _ _) _ _) (.inr hne)

def BoxS (w : World) (b : Nat) (v0 v1 v2 v3 : Value) : Prop := Box4 w b v0 v1 v2 v3 ∧ ∀ o, w.frozen? ⟨b, o, none⟩ = false
theorem BoxS.later {w w' : World} {b : Nat} {v0 v1 v2 v3 : Value} (h : BoxS w b v0 v1 v2 v3) (hb : Below w.heap.size w w') : BoxS w' b v0 v1 v2 v3 := ⟨h.1.later hb, fun o => (hb.frozen (p := ⟨b, o, none⟩) h.1.lt).trans (h.2 o)⟩
theorem BoxS.new (w : World) (v0 v1 v2 v3 : Value) (t : TypeId) : BoxS (w.alloc (.cells #[v0, v1, v2, v3] t)) w.heap.size v0 v1 v2 v3 := ⟨Box4.new w v0 v1 v2 v3 t, fun o => by simp [go_sem]⟩

/-- a shape in a box made since, its points in a row made since -/
def ShBoxC (W : World) (k : Int) (ps : List (Int × Int)) (s : Nat) (ga : Option Addr) (cap2 : Nat) (wx : World) : Prop :=
  wx.cell? ⟨s, 0, none⟩ = some (.int .i64 k) ∧ wx.cell? ⟨s, 1, none⟩ = some (.slice ga ps.length cap2) ∧ PtsAt wx ga ps ∧ Soft wx ga ps.length ∧ (∀ x, blk ga = some x → W.heap.size ≤ x ∧ x < wx.heap.size) ∧ W.heap.size ≤ s ∧ s < wx.heap.size ∧ Below W.heap.size W wx

theorem shBoxC_late {W wn : World} {k : Int} {ps : List (Int × Int)} {ga : Option Addr} {cap2 : Nat} {t : TypeId} (hpt : PtsAt wn ga ps) (hso : Soft wn ga ps.length) (hg : Fresh W.drew wn ga) (hb : Below W.heap.size W wn) :
    ShBoxC W k ps wn.heap.size ga cap2 (wn.alloc (.cells #[.int .i64 k, .slice ga ps.length cap2] t)) := by
  have ba : Below wn.heap.size wn (wn.alloc (.cells #[.int .i64 k, .slice ga ps.length cap2] t)) := (Below.refl _ _).alloc (Nat.le_refl _) _
  exact ⟨by simp [go_sem], by simp [go_sem], hpt.below ba, hso.below hpt ba, fun x hx => ⟨(hg x hx).1, by have := (hg x hx).2; simp; omega⟩, hb.size, by simp, hb.trans (ba.mono hb.size)⟩

theorem shBoxC_soon {W wn : World} {k : Int} {ps : List (Int × Int)} {ga : Option Addr} {cap2 : Nat} {O : Obj} {u0 u1 : Value} (hpt : PtsAt wn ga ps) (hso : Soft wn ga ps.length) (hg : Fresh (W.alloc O).drew wn ga) (hb : Below W.heap.size W wn) (c0 : wn.cell? ⟨W.heap.size, 0, none⟩ = some u0) (c1 : wn.cell? ⟨W.heap.size, 1, none⟩ = some u1) :
    ShBoxC W k ps W.heap.size ga cap2 ((wn.setCell ⟨W.heap.size, 0, none⟩ (.int .i64 k)).setCell ⟨W.heap.size, 1, none⟩ (.slice ga ps.length cap2)) := by
  have hne : blk ga ≠ some W.heap.size := fun e => by have := (hg _ e).1; change (W.alloc O).heap.size ≤ _ at this; simp at this; omega
  refine ⟨?_, ?_, (hpt.set hne).set hne, (hso.set _ _).set _ _, fun x hx => ⟨by have := (hg x hx).1; change (W.alloc O).heap.size ≤ _ at this; simp at this; omega, by have := (hg x hx).2; simpa [World.setCell] using this⟩, Nat.le_refl _, by have := World.block_lt_of_cell? _ _ c0; simpa [World.setCell] using this, (hb.setCell (Nat.le_refl _) _).setCell (Nat.le_refl _) _⟩
  · rw [World.cell?_setCell_other _ _ _ _ (by simp)]
    exact World.cell?_setCell_same _ _ _ c0
  · exact World.cell?_setCell_same _ _ _ ((World.cell?_setCell_other _ _ _ _ (by simp)).trans c1)

theorem boxFacts {W wn : World} (hbn : Below ((W.alloc (.cells #[.int .i64 0, .slice none 0 0] 31)).drew).heap.size ((W.alloc (.cells #[.int .i64 0, .slice none 0 0] 31)).drew) wn) :
    wn.cell? ⟨W.heap.size, 0, none⟩ = some (.int .i64 0) ∧ wn.cell? ⟨W.heap.size, 1, none⟩ = some (.slice none 0 0) ∧ wn.frozen? ⟨W.heap.size, 0, none⟩ = false ∧ wn.frozen? ⟨W.heap.size, 1, none⟩ = false := by
  refine ⟨cell_later hbn (by simp [go_sem]), cell_later hbn (by simp [go_sem]), ?_, ?_⟩
  · rw [hbn.frozen (p := ⟨W.heap.size, 0, none⟩) (by simp)]
    simp [go_sem]
  · rw [hbn.frozen (p := ⟨W.heap.size, 1, none⟩) (by simp)]
    simp [go_sem]

theorem Kept1.box {W wy : World} {r : Nat} {v0 v1 v2 v3 : Value} (hk : Kept1 W r wy) (h4 : ∀ i, i < 4 → (W.cell? ⟨r, i, none⟩).isSome = true) :
    Box4 ((((wy.setCell ⟨r, 0, none⟩ v0).setCell ⟨r, 1, none⟩ v1).setCell ⟨r, 2, none⟩ v2).setCell ⟨r, 3, none⟩ v3) r v0 v1 v2 v3 := by
  obtain ⟨u0, s0⟩ := Option.isSome_iff_exists.1 (hk.some 0 (h4 0 (by omega)))
  obtain ⟨u1, s1⟩ := Option.isSome_iff_exists.1 (hk.some 1 (h4 1 (by omega)))
  obtain ⟨u2, s2⟩ := Option.isSome_iff_exists.1 (hk.some 2 (h4 2 (by omega)))
  obtain ⟨u3, s3⟩ := Option.isSome_iff_exists.1 (hk.some 3 (h4 3 (by omega)))
  have far : ∀ (w : World) (o o' : Nat) (v : Value), o ≠ o' → (w.setCell ⟨r, o, none⟩ v).cell? ⟨r, o', none⟩ = w.cell? ⟨r, o', none⟩ := fun w o o' v hne => World.cell?_setCell_other w ⟨r, o, none⟩ ⟨r, o', none⟩ v (fun h => hne (congrArg Addr.off h))
  refine ⟨?_, ?_, ?_, ?_⟩
  · rw [far _ _ _ _ (by omega), far _ _ _ _ (by omega), far _ _ _ _ (by omega)]
    exact World.cell?_setCell_same _ _ _ s0
  · rw [far _ _ _ _ (by omega), far _ _ _ _ (by omega)]
    exact World.cell?_setCell_same _ _ _ ((far _ _ _ _ (by omega)).trans s1)
  · rw [far _ _ _ _ (by omega)]
    exact World.cell?_setCell_same _ _ _ ((far _ _ _ _ (by omega)).trans ((far _ _ _ _ (by omega)).trans s2))
  · exact World.cell?_setCell_same _ _ _ ((far _ _ _ _ (by omega)).trans ((far _ _ _ _ (by omega)).trans ((far _ _ _ _ (by omega)).trans s3)))

theorem drewBelow {W wn : World} (hbn : Below W.drew.heap.size W.drew wn) : Below W.heap.size W wn := ((Below.refl _ W).drew).trans hbn

theorem boxBelow {W wn : World} {O : Obj} (hbn : Below ((W.alloc O).drew).heap.size ((W.alloc O).drew) wn) : Below W.heap.size W wn :=
  (((Below.refl _ W).alloc (Nat.le_refl _) O).drew).trans (hbn.mono (by simp))

set_option maxRecDepth 100000 in
set_option maxHeartbeats 6400000 in
theorem featCopy_any (id : ByteArray) (k : Int) (a : Option Addr) (cap : Nat) (ps : List (Int × Int)) (c : Option Addr) (ca : Nat) (ts : List Tg) (w : World) (hp : PtsAt w a ps) (ht : TagsAt w c ts) (hl : ps.length ≤ 1048576) (hm : ts.length ≤ 1048576) :
    Calls Tryz.prog 47 #[.agg #[.string id, .int .i64 k, .slice a ps.length cap, .slice c ts.length ca]] w fun e w' => ∃ v, e = .returned v ∧ FeatAns w id k ps ts v w' := by
  have HP := Lib.hid hp
  have HT := Lib.hid ht
  have NC : Hid (ts.length ≠ 0 → ∀ x, blk c = some x → ¬ x = w.heap.size + 1) := fun h x hx e => by
    obtain ⟨b, off, rfl, hlt, _⟩ := ht 0 (by omega)
    obtain rfl : b = x := by simpa [blk] using hx
    omega
  clear hp ht
  go_enter Tryz.func47, Tryz.ntmps47
  go_upto_region 1 with (fail)
  obtain ⟨W, hW⟩ : ∃ W, W = ((w.alloc (.cells #[.string id, .int .i64 k, .slice a ps.length cap, .slice c ts.length ca] 34)).alloc (.cells #[.string ⟨#[]⟩, .int .i64 0, .slice none 0 0, .slice none 0 0] 34)) := ⟨_, rfl⟩
  have B0 : Hid (Below w.heap.size w W) := by rw [hW]; exact ((Below.refl _ _).alloc (Nat.le_refl _) _).alloc (by simp) _
  have hz : Hid (W.heap.size = w.heap.size + 1 + 1) := by show _ = _; rw [hW]; simp
  have RB : Hid (BoxS W (w.heap.size + 1) (.string ⟨#[]⟩) (.int .i64 0) (.slice none 0 0) (.slice none 0 0)) := by
    have := BoxS.new (w.alloc (.cells #[.string id, .int .i64 k, .slice a ps.length cap, .slice c ts.length ca] 34)) (.string ⟨#[]⟩) (.int .i64 0) (.slice none 0 0) (.slice none 0 0) 34
    rw [hW]
    simpa [Hid] using this
  have CB : Hid (Box4 W w.heap.size (.string id) (.int .i64 k) (.slice a ps.length cap) (.slice c ts.length ca)) := by rw [hW]; exact (Box4.new w _ _ _ _ _).alloc _
  have SOF : Hid (∀ wy, Below W.heap.size W wy → wy.cell? ⟨w.heap.size, 0, none⟩ = some (.string id) ∧ wy.cell? ⟨w.heap.size, 1, none⟩ = some (.int .i64 k) ∧ wy.cell? ⟨w.heap.size, 2, none⟩ = some (.slice a ps.length cap) ∧ wy.cell? ⟨w.heap.size, 3, none⟩ = some (.slice c ts.length ca) ∧ Below W.heap.size W wy) := by
    intro wy hb
    obtain ⟨q0, q1, q2, q3⟩ := CB.out.later hb
    exact ⟨q0, q1, q2, q3, hb⟩
  rw [← hW]
  have m1 : ¬ w.heap.size = W.heap.size := by have := hz.out; omega
  have m2 : ¬ w.heap.size + 1 = W.heap.size := by have := hz.out; omega
  clear hW
  go_cut [3] (fun s5 wx => ∃ s ga cap2, s5 = .pointer (some ⟨s, 0, none⟩) ∧ ShBoxC W k ps s ga cap2 wx)
  case first =>
    go_region_held3 (fun wy => wy.cell? ⟨w.heap.size, 0, none⟩ = some (.string id) ∧ wy.cell? ⟨w.heap.size, 1, none⟩ = some (.int .i64 k) ∧ wy.cell? ⟨w.heap.size, 2, none⟩ = some (.slice a ps.length cap) ∧ wy.cell? ⟨w.heap.size, 3, none⟩ = some (.slice c ts.length ca) ∧ Below W.heap.size W wy)
      (first
        | exact SOF.out _ ((Below.refl _ _).drew)
        | (go_split_ands
           rename_i hS
           exact SOF.out _ (hS.trans (hbn.mono hS.size)))
        | (go_split_ands
           rename_i hS
           exact SOF.out _ (hS.alloc hS.size _))
        | exact SOF.out _ ((drewBelow hbn).alloc hbn.size _)
        | (go_split_ands
           rename_i hS
           exact SOF.out _ ((hS.setCell (Nat.le_refl _) _).setCell (Nat.le_refl _) _)))
      (first
        | (go_at_call 102
           refine (cloneP_any a cap ps _ ?_ hl).mono ?_
           · (go_split_ands; rename_i hS; exact HP.out.below (B0.out.trans (hS.mono B0.out.size)))
           rintro e wn ⟨ga, cap2, rfl, hpt, hso, hg, hbn⟩
           try (first | have tf := boxFacts hbn)
           try (obtain ⟨t0, t1, u0, u1⟩ := tf)))
    all_goals (go_wp2_with fail; go_meet; go_split_ands; first | exact ⟨_, ga, cap2, rfl, shBoxC_late hpt hso hg (drewBelow hbn)⟩ | exact ⟨_, ga, cap2, rfl, shBoxC_soon hpt hso hg (boxBelow hbn) t0 t1⟩)
  case rest =>
    obtain ⟨s, ga, cap2, rfl, hsh⟩ := hcut
    obtain ⟨d0, d1, hpt, hso, hg, hs, hslt, hbW⟩ := hsh
    have hz' := hz.out
    have D0 := Lib.hid d0
    have D1 := Lib.hid d1
    have PC := Lib.hid hpt
    have SC := Lib.hid hso
    have RC := Lib.hid (RB.out.later hbW)
    have CC := Lib.hid (CB.out.later hbW)
    have BC : Hid (Below w.heap.size w wc) := B0.out.trans (hbW.mono B0.out.size)
    have TC : Hid (TagsAt wc c ts) := HT.out.below BC.out
    have HGA := Lib.hid hg
    have zc : w.heap.size + 1 < wc.heap.size := RC.out.1.lt
    have H4 : Hid (∀ i, i < 4 → (wc.cell? ⟨w.heap.size + 1, i, none⟩).isSome = true) := by
      intro i hi
      obtain ⟨⟨q0, q1, q2, q3⟩, _⟩ := RC.out
      rcases (show i = 0 ∨ i = 1 ∨ i = 2 ∨ i = 3 by omega) with rfl | rfl | rfl | rfl
      · rw [q0]; rfl
      · rw [q1]; rfl
      · rw [q2]; rfl
      · rw [q3]; rfl
    have SOF2 : Hid (∀ wy, Kept1 wc (w.heap.size + 1) wy → wy.cell? ⟨w.heap.size, 0, none⟩ = some (.string id) ∧ wy.cell? ⟨w.heap.size, 3, none⟩ = some (.slice c ts.length ca) ∧ wy.cell? ⟨s, 0, none⟩ = some (.int .i64 k) ∧ wy.cell? ⟨s, 1, none⟩ = some (.slice ga ps.length cap2) ∧ wy.cell? ⟨(w.heap.size + 1), 0, none⟩ = some (cellOf wy (w.heap.size + 1) 0) ∧ wy.cell? ⟨(w.heap.size + 1), 1, none⟩ = some (cellOf wy (w.heap.size + 1) 1) ∧ wy.cell? ⟨(w.heap.size + 1), 2, none⟩ = some (cellOf wy (w.heap.size + 1) 2) ∧ wy.cell? ⟨(w.heap.size + 1), 3, none⟩ = some (cellOf wy (w.heap.size + 1) 3) ∧ wy.frozen? ⟨(w.heap.size + 1), 0, none⟩ = false ∧ wy.frozen? ⟨(w.heap.size + 1), 1, none⟩ = false ∧ wy.frozen? ⟨(w.heap.size + 1), 2, none⟩ = false ∧ wy.frozen? ⟨(w.heap.size + 1), 3, none⟩ = false ∧ Kept1 wc (w.heap.size + 1) wy) := by
      intro wy hb
      have far : ∀ {x o : Nat} {u : Value}, wc.cell? ⟨x, o, none⟩ = some u → x ≠ w.heap.size + 1 → wy.cell? ⟨x, o, none⟩ = some u := fun h hne => (hb.grown.cell_far _ (World.block_lt_of_cell? _ _ h) (by simpa using hne)).trans h
      have hf : ∀ o, wy.frozen? ⟨w.heap.size + 1, o, none⟩ = false := fun o => (hb.soft _ (by show w.heap.size + 1 < _; omega)).trans (RC.out.2 o)
      exact ⟨far CC.out.1 (by omega), far CC.out.2.2.2 (by omega), far D0.out (by omega), far D1.out (by omega), cellOf_some (hb.some _ (H4.out 0 (by omega))), cellOf_some (hb.some _ (H4.out 1 (by omega))), cellOf_some (hb.some _ (H4.out 2 (by omega))), cellOf_some (hb.some _ (H4.out 3 (by omega))), hf 0, hf 1, hf 2, hf 3, hb⟩
    have ms1 : ¬ s = w.heap.size + 1 := by omega
    have ms2 : ¬ w.heap.size + 1 = s := by omega
    clear d0 d1 hpt hso hbW SOF
    go_upto_region 2 with (fail)
    go_cut [17] (fun s19 wx => ∃ a3 cap3, Box4 wx (w.heap.size + 1) (.string id) (.int .i64 k) (.slice ga ps.length cap2) (.slice a3 ts.length cap3) ∧ PtsAt wx ga ps ∧ Soft wx ga ps.length ∧ TagsAt wx a3 ts ∧ Soft wx a3 ts.length ∧ (∀ x, blk a3 = some x → wc.heap.size ≤ x ∧ x < wx.heap.size) ∧ wc.heap.size ≤ wx.heap.size ∧ Below w.heap.size w wx)
    case first =>
      go_region_held3 (fun wy => wy.cell? ⟨w.heap.size, 0, none⟩ = some (.string id) ∧ wy.cell? ⟨w.heap.size, 3, none⟩ = some (.slice c ts.length ca) ∧ wy.cell? ⟨s, 0, none⟩ = some (.int .i64 k) ∧ wy.cell? ⟨s, 1, none⟩ = some (.slice ga ps.length cap2) ∧ wy.cell? ⟨(w.heap.size + 1), 0, none⟩ = some (cellOf wy (w.heap.size + 1) 0) ∧ wy.cell? ⟨(w.heap.size + 1), 1, none⟩ = some (cellOf wy (w.heap.size + 1) 1) ∧ wy.cell? ⟨(w.heap.size + 1), 2, none⟩ = some (cellOf wy (w.heap.size + 1) 2) ∧ wy.cell? ⟨(w.heap.size + 1), 3, none⟩ = some (cellOf wy (w.heap.size + 1) 3) ∧ wy.frozen? ⟨(w.heap.size + 1), 0, none⟩ = false ∧ wy.frozen? ⟨(w.heap.size + 1), 1, none⟩ = false ∧ wy.frozen? ⟨(w.heap.size + 1), 2, none⟩ = false ∧ wy.frozen? ⟨(w.heap.size + 1), 3, none⟩ = false ∧ Kept1 wc (w.heap.size + 1) wy)
        (first
          | exact SOF2.out _ (Kept1.refl zc).drew
          | (go_split_ands
             rename_i hS
             exact SOF2.out _ (hS.below hbn))
          | (go_split_ands
             rename_i hS
             exact SOF2.out _ ((((hS.set _ _).set _ _).set _ _).set _ _)))
        (first
          | (go_at_call 103
             refine (cloneT_any c ca ts _ ?_ hm).mono ?_
             · (go_split_ands; rename_i hS; exact TC.out.turned2 (S := fun x => x = w.heap.size + 1) ⟨hS.grown.os, hS.grown.tape, hS.grown.output, hS.grown.size, fun x hx hn => hS.grown.block x hx (fun e => hn (by simpa using e))⟩ NC.out)
             rintro e wn ⟨a3, cap3, rfl, hT, hTS, hTN, hbn⟩))
      all_goals
        go_wp2_with fail
        go_meet
        have hk := (Kept1.refl zc).drew.below hbn
        have hb := drewBelow hbn
        have ng : blk ga ≠ some (w.heap.size + 1) := fun e => by have h := (HGA.out _ e).1; omega
        have na : blk a3 ≠ some (w.heap.size + 1) := fun e => by have h := (hTN _ e).1; change wc.heap.size ≤ _ at h; omega
        exact ⟨a3, cap3, hk.box H4.out, ((((PC.out.below hb).set ng).set ng).set ng).set ng, ((((SC.out.below PC.out hb).set _ _).set _ _).set _ _).set _ _, (((hT.set na).set na).set na).set na, (((hTS.set _ _).set _ _).set _ _).set _ _, fun x e => ⟨(hTN x e).1, by have := (hTN x e).2; simpa [World.setCell] using this⟩, by have := hb.size; simpa [World.setCell] using this, ((((hk.set _ _).set _ _).set _ _).set _ _).under BC.out⟩
    case rest =>
      obtain ⟨a3, cap3, ⟨r0, r1, r2, r3⟩, hP, hPS, hT, hTS, hTN, hsz, hB⟩ := hcut
      have E1 := Lib.hid hP
      have E2 := Lib.hid hPS
      have E3 := Lib.hid hT
      have E4 := Lib.hid hTS
      have E5 := Lib.hid hTN
      have E6 := Lib.hid hB
      clear hP hPS hT hTS hTN hB
      go_wp2
      refine bodyPost_ret (v := .agg #[.string id, .int .i64 k, .slice ga ps.length cap2, .slice a3 ts.length cap3]) (by simp [results, Tryz.results47, go_sem, r0, r1, r2, r3]) rfl ?_
      exact ⟨_, rfl, _, cap2, a3, cap3, rfl, E1.out, E2.out, fun x e => ⟨by have := (HGA.out x e).1; omega, by have := (HGA.out x e).2; omega⟩, E3.out, E4.out, fun x e => ⟨by have := (E5.out x e).1; omega, (E5.out x e).2⟩, fun x e e' => by have h1 := (HGA.out x e).2; have h2 := (E5.out _ e').1; omega, E6.out⟩
end Go.Proofs.YtccgbengfmlgbaaGreat

namespace Go.Proofs.YtccgbengfmlgbaaGreat
set_option linter.unusedVariables false
open Go.ChangeShapes Go.WideShapes Go.ChangeAt Go.RowKit Go.Deep

theorem keptA {W wn : World} {r : Nat} (hbn : Below W.drew.heap.size W.drew wn) (h : r < W.heap.size) : Kept1 W r wn := (Kept1.refl h).drew.below hbn
theorem keptB {W wn : World} {O : Obj} {r : Nat} (hbn : Below (W.alloc O).drew.heap.size (W.alloc O).drew wn) (h : r < W.heap.size) : Kept1 W r wn := ((Kept1.refl h).alloc O).drew.below hbn
theorem aBelow (wn : World) (O : Obj) : Below wn.heap.size wn (wn.alloc O) := (Below.refl _ _).alloc (Nat.le_refl _) _
theorem szA {W : World} {O : Obj} {B : Nat} (h : W.heap.size = B + 1 + 1) : (W.alloc O).drew.heap.size = B + 1 + 1 + 1 := by show (W.alloc O).heap.size = _; rw [World.size_alloc]; omega

theorem PP2 {V wn : World} {g : Nat} {ps : List (Int × Int)} {v0 v1 v2 v3 : Value} {B : Nat} (hpt : PtsAt wn (some ⟨g, 0, none⟩) ps) (hso : Soft wn (some ⟨g, 0, none⟩) ps.length) (hg : V.heap.size ≤ g) (hglt : g < wn.heap.size) (hW : V.heap.size = B + 1 + 1 + 1 ∨ V.heap.size = B + 1 + 1) :
    PtsAt ((((wn.setCell ⟨B + 1, 0, none⟩ v0).setCell ⟨B + 1, 1, none⟩ v1).setCell ⟨B + 1, 2, none⟩ v2).setCell ⟨B + 1, 3, none⟩ v3) (some ⟨g, 0, none⟩) ps ∧ Soft ((((wn.setCell ⟨B + 1, 0, none⟩ v0).setCell ⟨B + 1, 1, none⟩ v1).setCell ⟨B + 1, 2, none⟩ v2).setCell ⟨B + 1, 3, none⟩ v3) (some ⟨g, 0, none⟩) ps.length ∧
      ∀ x, blk (some ⟨g, 0, none⟩) = some x → B + 1 < x ∧ x < ((((wn.setCell ⟨B + 1, 0, none⟩ v0).setCell ⟨B + 1, 1, none⟩ v1).setCell ⟨B + 1, 2, none⟩ v2).setCell ⟨B + 1, 3, none⟩ v3).heap.size := by
  have hne : blk (some ⟨g, 0, none⟩) ≠ some (B + 1) := by simp [blk]; omega
  exact ⟨(((hpt.set hne).set hne).set hne).set hne, (((hso.set _ _).set _ _).set _ _).set _ _, fun x e => by obtain rfl : g = x := (by simpa [blk] using e); exact ⟨by omega, by simpa [World.setCell] using hglt⟩⟩

set_option maxRecDepth 100000 in
set_option maxHeartbeats 2000000 in
theorem l2Copy_n0 (id : ByteArray) (k : Int) (b off cap : Nat) (ps : List (Int × Int)) (c : Option Addr) (ca : Nat) (w : World) (hp : PtsAt w (some ⟨b, off, none⟩) ps) (hl : ps.length ≤ 1048576) (h0 : 0 < ps.length) :
    Calls Tryz.prog 73 #[.agg #[.string id, .int .i64 k, .slice (some ⟨b, off, none⟩) ps.length cap, .slice c 0 ca]] w fun e w' => ∃ ax cx ay cy, e = .returned (.agg #[.string id, .int .i64 k, .slice ax ps.length cx, .slice ay 0 cy]) ∧ (PtsAt w' ax ps ∧ Soft w' ax ps.length ∧ Fresh w w' ax) ∧ Below w.heap.size w w' := by
  have HP := Lib.hid hp
  clear hp
  obtain ⟨i0, hi, hz0, hz1, hz2⟩ := info_parts infoT
  have HI := Lib.hid hi
  have HZ0 := Lib.hid hz0
  have HZ1 := Lib.hid hz1
  have HZ2 := Lib.hid hz2
  clear hi hz0 hz1 hz2
  go_enter Tryz.func73, Tryz.ntmps73
  go_upto_region 1 with (fail)
  obtain ⟨W, hW⟩ : ∃ W, W = ((w.alloc (.cells #[.string id, .int .i64 k, .slice (some ⟨b, off, none⟩) ps.length cap, .slice c 0 ca] 34)).alloc (.cells #[.string ⟨#[]⟩, .int .i64 0, .slice none 0 0, .slice none 0 0] 34)) := ⟨_, rfl⟩
  have B0 : Hid (Below w.heap.size w W) := by rw [hW]; exact ((Below.refl _ _).alloc (Nat.le_refl _) _).alloc (by simp) _
  have hz : Hid (W.heap.size = w.heap.size + 1 + 1) := by show _ = _; rw [hW]; simp
  have SOF : Hid (∀ wy, Kept1 W (w.heap.size + 1) wy → wy.cell? ⟨w.heap.size, 0, none⟩ = some (.string id) ∧ wy.cell? ⟨w.heap.size, 1, none⟩ = some (.int .i64 k) ∧ wy.cell? ⟨w.heap.size, 2, none⟩ = some (.slice (some ⟨b, off, none⟩) ps.length cap) ∧ wy.cell? ⟨w.heap.size, 3, none⟩ = some (.slice c 0 ca) ∧ wy.cell? ⟨(w.heap.size + 1), 0, none⟩ = some (cellOf wy (w.heap.size + 1) 0) ∧ wy.cell? ⟨(w.heap.size + 1), 1, none⟩ = some (cellOf wy (w.heap.size + 1) 1) ∧ wy.cell? ⟨(w.heap.size + 1), 2, none⟩ = some (cellOf wy (w.heap.size + 1) 2) ∧ wy.cell? ⟨(w.heap.size + 1), 3, none⟩ = some (cellOf wy (w.heap.size + 1) 3) ∧ wy.frozen? ⟨(w.heap.size + 1), 0, none⟩ = false ∧ wy.frozen? ⟨(w.heap.size + 1), 1, none⟩ = false ∧ wy.frozen? ⟨(w.heap.size + 1), 2, none⟩ = false ∧ wy.frozen? ⟨(w.heap.size + 1), 3, none⟩ = false ∧ Kept1 W (w.heap.size + 1) wy) := by
    intro wy hb
    have hz := hz.out
    have hc : ∀ o, wy.cell? ⟨w.heap.size, o, none⟩ = W.cell? ⟨w.heap.size, o, none⟩ := fun o => hb.grown.cell_far ⟨w.heap.size, o, none⟩ (by show w.heap.size < _; omega) (by simp)
    have hf : ∀ o, wy.frozen? ⟨w.heap.size + 1, o, none⟩ = W.frozen? ⟨w.heap.size + 1, o, none⟩ := fun o => hb.soft _ (by show w.heap.size + 1 < _; omega)
    refine ⟨?_, ?_, ?_, ?_, cellOf_some (hb.some _ ?_), cellOf_some (hb.some _ ?_), cellOf_some (hb.some _ ?_), cellOf_some (hb.some _ ?_), ?_, ?_, ?_, ?_, hb⟩
    all_goals first | rw [hc, hW] | rw [hf, hW] | rw [hW]
    all_goals simp [go_sem]
  have zR : Hid (w.heap.size + 1 < W.heap.size) := by have := hz.out; show _ < _; omega
  have H4 : Hid (∀ i, i < 4 → (W.cell? ⟨w.heap.size + 1, i, none⟩).isSome = true) := by
    intro i hi
    rw [hW]
    rcases (show i = 0 ∨ i = 1 ∨ i = 2 ∨ i = 3 by omega) with rfl | rfl | rfl | rfl <;> simp [go_sem]
  rw [← hW]
  have m1 : ¬ w.heap.size = W.heap.size := by have := hz.out; omega
  have m2 : ¬ w.heap.size + 1 = W.heap.size := by have := hz.out; omega
  clear hW
  go_cut [12] (fun s12 wx => ∃ ax cx ay cy, Box4 wx (w.heap.size + 1) (.string id) (.int .i64 k) (.slice ax ps.length cx) (.slice ay 0 cy) ∧ PtsAt wx ax ps ∧ Soft wx ax ps.length ∧ (∀ x, blk ax = some x → w.heap.size + 1 < x ∧ x < wx.heap.size) ∧ Below w.heap.size w wx)
  case first =>
    go_region_held3 (fun wy => wy.cell? ⟨w.heap.size, 0, none⟩ = some (.string id) ∧ wy.cell? ⟨w.heap.size, 1, none⟩ = some (.int .i64 k) ∧ wy.cell? ⟨w.heap.size, 2, none⟩ = some (.slice (some ⟨b, off, none⟩) ps.length cap) ∧ wy.cell? ⟨w.heap.size, 3, none⟩ = some (.slice c 0 ca) ∧ wy.cell? ⟨(w.heap.size + 1), 0, none⟩ = some (cellOf wy (w.heap.size + 1) 0) ∧ wy.cell? ⟨(w.heap.size + 1), 1, none⟩ = some (cellOf wy (w.heap.size + 1) 1) ∧ wy.cell? ⟨(w.heap.size + 1), 2, none⟩ = some (cellOf wy (w.heap.size + 1) 2) ∧ wy.cell? ⟨(w.heap.size + 1), 3, none⟩ = some (cellOf wy (w.heap.size + 1) 3) ∧ wy.frozen? ⟨(w.heap.size + 1), 0, none⟩ = false ∧ wy.frozen? ⟨(w.heap.size + 1), 1, none⟩ = false ∧ wy.frozen? ⟨(w.heap.size + 1), 2, none⟩ = false ∧ wy.frozen? ⟨(w.heap.size + 1), 3, none⟩ = false ∧ Kept1 W (w.heap.size + 1) wy)
      (first
        | assumption
        | with_reducible exact SOF.out _ (Kept1.refl zR.out).drew
        | (go_split_ands
           rename_i hS
           with_reducible exact SOF.out _ (hS.below hbn))
        | (go_split_ands
           rename_i hS
           first | with_reducible exact SOF.out _ ((Kept1.refl zR.out).alloc _).drew | exact SOF.out _ (hS.alloc _))
        | (go_split_ands
           rename_i hS
           with_reducible exact SOF.out _ ((((hS.set _ _).set _ _).set _ _).set _ _)))
      (first
        | (go_at_call 86
           refine (l1Copy_any k b off cap ps _ ?_ hl h0).mono ?_
           · (go_split_ands; rename_i hS; exact HP.out.below (hS.under B0.out))
           rintro e wn ⟨g, cap2, rfl, hpt, hso, hg, hglt, hbn⟩
           first | have hk := keptA hbn zR.out | have hk := keptB hbn zR.out | skip)
        | (refine step_append0 _ (by rfl) _ _ _ (by rfl) 78 i0 Tryz.underlying32 HI.out _ _ _ (by rfl) (by rfl) ?_))
    all_goals (go_wp2_with fail; go_meet; first | ((with_reducible refine ⟨_, _, _, _, hk.box H4.out, ?_⟩); exact ⟨(PP2 (V := (W.alloc _).drew) hpt hso hg hglt (.inl (szA hz.out))).1, (PP2 (V := (W.alloc _).drew) hpt hso hg hglt (.inl (szA hz.out))).2.1, (PP2 (V := (W.alloc _).drew) hpt hso hg hglt (.inl (szA hz.out))).2.2, ((((hk.set _ _).set _ _).set _ _).set _ _).under B0.out⟩) | ((with_reducible refine ⟨_, _, _, _, (hk.alloc _).box H4.out, ?_⟩); exact ⟨(PP2 (V := W) (hpt.below (aBelow wn _)) (hso.below hpt (aBelow wn _)) hg (Nat.lt_of_lt_of_le hglt (aBelow wn _).size) (.inr hz.out)).1, (PP2 (V := W) (hpt.below (aBelow wn _)) (hso.below hpt (aBelow wn _)) hg (Nat.lt_of_lt_of_le hglt (aBelow wn _).size) (.inr hz.out)).2.1, (PP2 (V := W) (hpt.below (aBelow wn _)) (hso.below hpt (aBelow wn _)) hg (Nat.lt_of_lt_of_le hglt (aBelow wn _).size) (.inr hz.out)).2.2, (((((hk.alloc _).set _ _).set _ _).set _ _).set _ _).under B0.out⟩))
  case rest =>
    obtain ⟨ax, cx, ay, cy, ⟨r0, r1, r2, r3⟩, hQ1, hQ2, hQ3, hB⟩ := hcut
    have B := Lib.hid hB
    have Q1 := Lib.hid hQ1
    have Q2 := Lib.hid hQ2
    have Q3 := Lib.hid hQ3
    clear hQ1 hQ2 hQ3
    clear hB
    go_wp2
    refine bodyPost_ret (v := .agg #[.string id, .int .i64 k, .slice ax ps.length cx, .slice ay 0 cy]) (by simp [results, Tryz.results73, go_sem, r0, r1, r2, r3]) rfl ?_
    exact ⟨ax, cx, ay, cy, rfl, ⟨Q1.out, Q2.out, fun x e => ⟨by have := (Q3.out x e).1; omega, (Q3.out x e).2⟩⟩, B.out⟩

end Go.Proofs.YtccgbengfmlgbaaGreat

namespace Go.Proofs.YtccgbengfmlgbaaGreat
set_option linter.unusedVariables false
open Go.ChangeShapes Go.WideShapes Go.ChangeAt Go.RowKit

/-- two lists of texts are one -/
def ssEq (xs ys : List ByteArray) : Bool := decide (xs = ys)

theorem ssEq_of {xs ys : List ByteArray} (hl : xs.length = ys.length) (h : ∀ j, j < xs.length → sx xs j = sx ys j) : ssEq xs ys = true := by
  unfold ssEq
  rw [decide_eq_true_iff]
  refine List.ext_getElem hl fun i h1 h2 => ?_
  simpa [sx, h1, h2] using h i h1

theorem ssEq_ne {xs ys : List ByteArray} {j : Nat} (h : ¬ sx xs j = sx ys j) : ssEq xs ys = false := by
  unfold ssEq
  rw [decide_eq_false_iff_not]
  rintro rfl
  exact h rfl

theorem ssEq_len {xs ys : List ByteArray} (h : xs.length ≠ ys.length) : ssEq xs ys = false := by
  unfold ssEq
  rw [decide_eq_false_iff_not]
  rintro rfl
  exact h rfl

set_option maxHeartbeats 1000000 in
theorem slicesEqualS_any (a a' : Option Addr) (cap cap' : Nat) (xs ys : List ByteArray) (w : World) (hp : StrsAt w a xs) (hq : StrsAt w a' ys) (hl : xs.length ≤ 1048577) (hl' : ys.length ≤ 1048577) :
    Calls Tryz.prog 109 #[.slice a xs.length cap, .slice a' ys.length cap'] w fun e w' => e = .returned (.bool (ssEq xs ys)) ∧ ∃ n, w' = w.drewN n := by
  have HP := Lib.hid hp
  have HQ := Lib.hid hq
  clear hp hq
  by_cases he : xs.length = ys.length
  · have HE := Lib.hid he
    rw [← he]
    have h1 : ((xs.length : Int) != (xs.length : Int)) = false := by simp
    clear he
    go_enter Tryz.func109, Tryz.ntmps109
    go_wp2
    go_loopw [5, 13] (fun _ i wr => ∃ k n : Nat, k ≤ xs.length ∧ i = .int .i64 k ∧ wr = w.drewN n ∧ ∀ j, j < k → sx xs j = sx ys j) (fun _ i _ => xs.length - (intOf i).toNat)
    case atStart => exact ⟨0, 0, Nat.zero_le _, rfl, rfl, fun j h => absurd h (Nat.not_lt_zero _)⟩
    case round =>
      obtain ⟨k, n, hk, rfl, rfl, hall⟩ := hrel
      have HA := Lib.hid hall
      clear hall
      by_cases hlt : k < xs.length
      · obtain ⟨b, off, rfl, hb, hc1⟩ := HP.out k hlt
        obtain ⟨b', off', rfl, hb', hd1⟩ := HQ.out k (by have := HE.out; omega)
        have hbq := bytes_beq (sx xs k) (sx ys k)
        by_cases hs : sx xs k = sx ys k
        · rw [decide_eq_true hs] at hbq
          have HS := Lib.hid hs
          clear hs
          go_wp2
          go_quiet (fail)
          go_wp2
          go_roundw
          case rel => exact ⟨k + 1, _, by omega, by go_num, rfl, fun j hj => by by_cases e : j = k; (subst e; exact HS.out); exact HA.out j (by omega)⟩
          case measure => simp [intOf]; omega
        · rw [decide_eq_false hs] at hbq
          have HS := Lib.hid (ssEq_ne hs)
          clear hs
          go_wp2
          go_quiet (fail)
          go_wp2
          go_ret
          exact ⟨by rw [HS.out]; rfl, n + nq, by rw [World.drewN_drewN]⟩
      · obtain rfl : k = xs.length := by omega
        have HT := Lib.hid (ssEq_of HE.out HA.out)
        go_wp2
        go_ret
        exact ⟨by rw [HT.out]; rfl, n, rfl⟩
  · have h1 : ((xs.length : Int) != (ys.length : Int)) = true := by simp; omega
    have HT := Lib.hid (ssEq_len he)
    clear he
    go_enter Tryz.func109, Tryz.ntmps109
    go_wp2
    go_ret
    exact ⟨by rw [HT.out]; rfl, 0, rfl⟩
end Go.Proofs.YtccgbengfmlgbaaGreat

namespace Go.Proofs.YtccgbengfmlgbaaGreat
set_option linter.unusedVariables false
open Go.ChangeShapes Go.WideShapes Go.ChangeAt Go.RowKit Go.Maps

theorem infoStr : (Tryz.prog.info? 9).map (fun i => (i.zero, i.size, i.bytes)) = some (some (.string .empty), 1, 16) := by kernel_rfl

theorem ownsRow_later {w w' : World} {base : Nat} {e : TypeId} {sz : Nat} {v : Value} {n : Nat} {xs : List Value} (h : w.ownsRow base e sz v n xs) (hb : Below w.heap.size w w') : w'.ownsRow base e sz v n xs := by
  obtain ⟨h1, h2 | ⟨g, cap, cur, h3, h4, hg, h5⟩⟩ := h
  · exact ⟨h1, .inl h2⟩
  · exact ⟨h1, .inr ⟨g, cap, cur, h3, h4, (hb.block g (Array.getElem?_eq_some_iff.1 hg).1).trans hg, h5⟩⟩

/-- the names of things -/
def namesOf (fs : List Ft) : List ByteArray := fs.map (·.1)

theorem namesOf_len (fs : List Ft) : (namesOf fs).length = fs.length := by simp [namesOf]
theorem namesOf_at {fs : List Ft} {i : Nat} (h : i < fs.length) : sx (namesOf fs) i = fid fs i := by simp [sx, namesOf, fid, fg, h]

theorem names_step {fs : List Ft} {k : Nat} (h : k < fs.length) : ((namesOf fs).take (k + 1)).map Value.string = ((namesOf fs).take k).map Value.string ++ [.string (fid fs k)] := by
  have h1 : k < (namesOf fs).length := by rw [namesOf_len]; exact h
  rw [List.take_succ_eq_append_getElem h1, List.map_append]
  congr 1
  have := namesOf_at h
  simp only [sx, List.getD_eq_getElem?_getD, List.getElem?_eq_getElem h1, Option.getD_some] at this
  rw [this]
  rfl

theorem ents_names {w : World} {es : List En} {fs : List Ft} (h : Ents w es fs) : es.map (·.1) = namesOf fs := by
  refine List.ext_getElem (by simp [namesOf, h.1]) fun i h1 h2 => ?_
  have hi : i < fs.length := by simpa [namesOf] using h2
  have := (h.2 i hi).1
  have h3 := namesOf_at hi
  simp only [sx, List.getD_eq_getElem?_getD, List.getElem?_eq_getElem h2, Option.getD_some] at h3
  rw [h3, ← this]
  simp [ek, h.1, hi]

theorem kl_get {es : List En} {fs : List Ft} {w : World} (h : Ents w es fs) {i : Nat} (hi : i < es.length) : klF es[i] = fb fs i := by
  have := (h.2 i (by rw [← h.1]; exact hi)).1
  unfold fb
  rw [← this]
  simp [klF, ek, hi]

theorem ascF_of_good {w : World} {es : List En} {fs : List Ft} (he : Ents w es fs) (h : featsGood fs = true) : AscF es := by
  have step : ∀ j, j + 1 < fs.length → fb fs j < fb fs (j + 1) := fun j hj => by
    have := featsGood_at h hj
    simp [featGood] at this
    exact this.2
  have all : ∀ d i, i + d + 1 < fs.length → fb fs i < fb fs (i + d + 1) := by
    intro d
    induction d with
    | zero => exact fun i hi => step i hi
    | succ d ih => exact fun i hi => List.lt_trans (ih i (by omega)) (step _ hi)
  have hl := he.1
  refine List.pairwise_iff_getElem.2 fun i j hi hj hij => ?_
  rw [kl_get he hi, kl_get he hj]
  have := all (j - i - 1) i (by omega)
  rwa [show i + (j - i - 1) + 1 = j by omega] at this

theorem good_of_ascF {w : World} {es : List En} {fs : List Ft} (he : Ents w es fs) (hw : ∀ j, j < fs.length → ftOk fs j = true) (h : AscF es) : featsGood fs = true := by
  have hl := he.1
  refine featsGood_of fun j hj => ?_
  by_cases h0 : 0 < j
  · have := List.pairwise_iff_getElem.1 h (j - 1) j (by omega) (by omega) (by omega)
    rw [kl_get he, kl_get he] at this
    have hn : ¬ fb fs j ≤ fb fs (j - 1) := fun hle => hle this
    simp [featGood, hw j hj, hn]
  · simp [featGood, hw j hj, h0]

theorem asc_names {es fs' : List En} (h : AscF fs') (e : es.map (·.1) = fs'.map (·.1)) : AscF es := by
  have h1 : (fs'.map (·.1)).Pairwise (fun p q => p.data.toList < q.data.toList) := List.pairwise_map.2 (h.imp fun {p q} (h : klF p < klF q) => h)
  rw [← e] at h1
  exact (List.pairwise_map.1 h1).imp fun {p q} h => h

theorem told_goodF {w : World} {es : List En} {fs : List Ft} (he : Ents w es fs) (hw : ∀ j, j < fs.length → ftOk fs j = true) : ssEq (namesOf fs) ((toldF es).map (·.1)) = featsGood fs := by
  rw [← ents_names he]
  by_cases h : AscF es
  · rw [good_of_ascF he hw h, toldF_asc h]
    simp [ssEq]
  · have h1 : featsGood fs = false := by
      cases h2 : featsGood fs
      · rfl
      · exact absurd (ascF_of_good he h2) h
    rw [h1]
    unfold ssEq
    exact decide_eq_false fun e => h (asc_names (ascF_told es) e)

set_option maxRecDepth 100000 in
set_option maxHeartbeats 4000000 in
theorem implSheetOk_any (a : Option Addr) (cap : Nat) (fs : List Ft) (w : World) (hp : FeatsAt w a fs) (hl : fs.length ≤ 1048576) (ht : FeatsLen fs 1048576) :
    Calls Tryz.prog 57 #[.slice a fs.length cap] w fun e w' => e = .returned (.bool (sheetOk fs)) ∧ Below w.heap.size w w' := by
  obtain ⟨i0, hi, hz0, hz1, hz2⟩ := info_parts infoStr
  have HI := Lib.hid hi
  have HZ0 := Lib.hid hz0
  have HZ1 := Lib.hid hz1
  have HZ2 := Lib.hid hz2
  have HP := Lib.hid hp
  have HL := Lib.hid ht
  clear hp ht hi hz0 hz1 hz2
  by_cases h8 : fs.length ≤ 8
  · go_enter Tryz.func57, Tryz.ntmps57
    go_wp2
    go_loopw [3, 5, 11] (fun s _ i wr => ∃ (k : Nat) (v : Value), k ≤ fs.length ∧ i = .int .i64 k ∧ v = s ∧ wr.ownsRow w.heap.size 9 1 v k (((namesOf fs).take k).map Value.string) ∧ Below w.heap.size w wr ∧ ∀ j, j < k → ftOk fs j = true) (fun _ _ i _ => fs.length - (intOf i).toNat)
    case atStart => exact ⟨0, _, Nat.zero_le _, rfl, rfl, by simpa using World.ownsRow_nil _ _ _ _, Below.refl _ _, fun j h => absurd h (Nat.not_lt_zero _)⟩
    case round =>
      obtain ⟨k, v, hk, rfl, rfl, hown, hbel, hall⟩ := hrel
      have HA := Lib.hid hall
      have HB := Lib.hid hbel
      have HW := Lib.hid hown
      have hsz := hbel.size
      clear hall hown
      by_cases hlt : k < fs.length
      · obtain ⟨b, off, pa, pc, ta, tc, rfl, hb, hc1, hc2, hc3, hc4, hpp, htt⟩ := HP.out k hlt
        obtain ⟨l1, l2, l3, l4⟩ := HL.out k hlt
        rw [← hbel.cell (p := ⟨b, _, none⟩) hb] at hc1 hc2 hc3 hc4
        have D1 := Lib.hid (hpp.below hbel)
        have D2 := Lib.hid (htt.below hbel)
        have L4 := Lib.hid l4
        have zb : b < wr.heap.size := by omega
        clear hbel hpp htt l4
        have A0 : Hid (∀ o, Below wr.heap.size wr (wr.alloc o)) := fun o => (Below.refl _ _).alloc (Nat.le_refl _) _
        go_wp2_with fail
        clear hc1 hc2 hc3 hc4
        refine (implFeatOk_any _ _ _ _ _ _ _ _ _ (D1.out.below (A0.out _)) (D2.out.below (A0.out _)) (by omega) (by omega) (by omega) L4.out).mono ?_
        rintro e w1 ⟨rfl, hb1⟩
        have c0 := cell_later hb1 (a := ⟨wr.heap.size, 0, none⟩) (v := .string (fid fs k)) (by simp [go_sem])
        have B1 : Hid (Below wr.heap.size wr w1) := (A0.out _).trans (hb1.mono (by simp))
        have z1 : wr.heap.size < w1.heap.size := by have := hb1.size; simp at this; omega
        clear hb1 A0 D1 D2
        rw [show featOk (fid fs k) (fkd fs k) (fps fs k) (fts fs k) = ftOk fs k from rfl]
        by_cases hx : ftOk fs k = true
        · rw [hx]
          have HW1 : Hid (w1.ownsRow w.heap.size 9 1 v k (((namesOf fs).take k).map Value.string)) := ownsRow_later HW.out B1.out
          have HV : Hid (∀ j, v.ownBlock = some j → w.heap.size ≤ j) := fun j hj => (HW.out.lt j hj).1
          go_wp2_with (at_builtin; refine wpList_append_lies _ (by rfl) _ _ _ (by rfl) w.heap.size 9 i0 _ 1 16 Tryz.underlying35 HI.out HZ0.out HZ1.out HZ2.out rfl (by omega) v k (((namesOf fs).take k).map Value.string) (by rfl) (HW1.out.alloc _) ⟨w1.heap.size, 0, none⟩ 1 1 [.string (fid fs k)] (by rfl) (by rfl) (World.news_of_block (cs := #[.string (fid fs k)]) (t := 9) (fr := (0, 0)) (heap_alloc_new w1 _)) (by simp [Value.oneCell']) (by omega) (by unfold maxLen; omega) (by omega) (by simp; omega) (w1.heap.size + 1) (by simp) ?_; intro gg cap' wa hown1 hgrow hat hlt')
          rw [← names_step hlt] at hown1
          have HO := Lib.hid hown1
          have HG := Lib.hid hgrow
          clear hown1 hgrow hat c0
          go_roundw
          case rel => exact ⟨k + 1, _, by omega, by go_num, rfl, HO.out, (HB.out.trans ((B1.out.mono hsz).alloc (by omega) _)).grown HG.out (by simp; omega) (fun j hj => HV.out j hj), fun j hj => by by_cases e : j = k; (subst e; exact hx); exact HA.out j (by omega)⟩
          case measure => simp [intOf]; omega
        · have hx' : ftOk fs k = false := by simpa using hx
          rw [hx']
          have B2 : Hid (Below w.heap.size w w1) := HB.out.trans (B1.out.mono hsz)
          clear c0
          go_wp2
          go_ret
          exact ⟨by rw [sheetOk_not hlt (by simp [featGood, hx'])]; rfl, B2.out⟩
      · obtain rfl : k = fs.length := by omega
        have HO : Hid (wr.ownsRow w.heap.size 9 1 v fs.length ((namesOf fs).map Value.string)) := by
          have := HW.out
          rwa [List.take_of_length_le (by rw [namesOf_len]; omega)] at this
        clear hbel HW
        obtain ⟨an, cn, rfl, hn, _⟩ := owned_strs HO.out (namesOf_len fs).symm
        have HN := Lib.hid hn
        clear hn HO
        go_wp2_with fail
        refine (featsByName_any _ _ _ _ (HP.out.below HB.out) hl HL.out).mono ?_
        rintro e w1 ⟨rfl, ⟨es, he, ho⟩, hb1⟩
        have HE := Lib.hid he
        have HO := Lib.hid ho
        have B1 : Hid (Below w.heap.size w w1) := HB.out.trans (hb1.mono hsz)
        replace HN := Lib.hid (HN.out.below hb1)
        clear he ho hb1
        go_wp2_with fail
        refine (namesInOrder_any _ _ _ (toldF es) _ HO.out (tellsF_mapF es) (by omega)).mono ?_
        rintro e w2 ⟨⟨v2, rfl, hr2⟩, hl2, hb2⟩
        have B2 : Hid (Below w.heap.size w w2) := B1.out.trans (hb2.mono B1.out.size)
        replace HN := Lib.hid (HN.out.below hb2)
        generalize hys : (toldF es).map (·.1) = ys at hr2
        have hyl : (toldF es).length = ys.length := by rw [← hys, List.length_map]
        have HYS := Lib.hid hys
        clear hys
        obtain ⟨a2, cap2, rfl, h2, _⟩ := owned_strs hr2 hyl
        have H2 := Lib.hid h2
        clear hb2 hr2 h2 HO
        go_wp2_with fail
        refine (slicesEqualS_any _ _ _ _ _ _ _ HN.out H2.out (by rw [namesOf_len]; omega) (by omega)).mono ?_
        rintro e w3 ⟨rfl, n, rfl⟩
        have B3 : Hid (Below w.heap.size w (w2.drewN n)) := below_drewN B2.out n
        go_wp2
        go_ret
        exact ⟨by rw [← HYS.out, told_goodF HE.out HA.out]; simp [sheetOk, h8], B3.out⟩
  · go_enter Tryz.func57, Tryz.ntmps57
    go_wp2
    go_ret
    exact ⟨by simp [sheetOk, h8], Below.refl _ _⟩
end Go.Proofs.YtccgbengfmlgbaaGreat

namespace Go.Proofs.YtccgbengfmlgbaaGreat
set_option linter.unusedVariables false
open Go.ChangeShapes Go.WideShapes Go.ChangeAt Go.RowKit Go.Deep

/-- is there such a thing -/
def getHas (fs : List Ft) (id : ByteArray) : Bool := sheetOk fs && decide (firstF fs id < fs.length)
/-- the thing of a name -/
def getFt (fs : List Ft) (id : ByteArray) : Ft := if getHas fs id then fg fs (firstF fs id) else (⟨#[]⟩, 0, [], [])

/-- a value is a thing that lies between these blocks -/
def Got (lo hi : Nat) (w : World) (v : Value) (f : Ft) : Prop :=
  ∃ ax cx ay cy, v = .agg #[.string f.1, .int .i64 f.2.1, .slice ax f.2.2.1.length cx, .slice ay f.2.2.2.length cy] ∧ PtsAt w ax f.2.2.1 ∧ TagsAt w ay f.2.2.2 ∧ (f.2.2.1.length = 0 ∨ ∀ x, blk ax = some x → lo ≤ x ∧ x < hi) ∧ (f.2.2.2.length = 0 ∨ ∀ x, blk ay = some x → lo ≤ x ∧ x < hi)

theorem Got.turned {lo hi : Nat} {w w' : World} {v : Value} {f : Ft} {S : Nat → Prop} (h : Got lo hi w v f) (ht : Turned w w' S) (hS : ∀ x, lo ≤ x → x < hi → ¬ S x) : Got lo hi w' v f := by
  obtain ⟨ax, cx, ay, cy, h1, h2, h3, h4, h5⟩ := h
  refine ⟨ax, cx, ay, cy, h1, ?_, ?_, h4, h5⟩
  · rcases h4 with h | h
    · exact fun i hi => absurd hi (by omega)
    · exact h2.turned ht fun x hx => hS x (h x hx).1 (h x hx).2
  · rcases h5 with h | h
    · exact fun i hi => absurd hi (by omega)
    · exact h3.turned ht fun x hx => hS x (h x hx).1 (h x hx).2

theorem Got.below {lo hi : Nat} {w w' : World} {v : Value} {f : Ft} (h : Got lo hi w v f) (hb : Below w.heap.size w w') : Got lo hi w' v f := h.turned (S := fun _ => False) (Turned.of_below hb) fun _ _ _ h => h

theorem Got.nothing (lo hi : Nat) (w : World) : Got lo hi w (.agg #[.string ⟨#[]⟩, .int .i64 0, .slice none 0 0, .slice none 0 0]) (⟨#[]⟩, 0, [], []) :=
  ⟨none, 0, none, 0, rfl, PtsAt.nil _ _, TagsAt.nil _ _, .inl rfl, .inl rfl⟩

theorem good_ok {fs : List Ft} (h : sheetOk fs = true) {i : Nat} (hi : i < fs.length) : ftOk fs i = true := by
  simp [sheetOk] at h
  have := featsGood_at h.1 hi
  simp [featGood] at this
  exact this.1

theorem ftOk_pts {fs : List Ft} {i : Nat} (h : ftOk fs i = true) : 0 < (fps fs i).length := by
  unfold ftOk featOk at h
  simp only [Bool.and_eq_true] at h
  have h2 := h.1.2
  unfold shapeOk at h2
  simp only [Bool.and_eq_true] at h2
  have h3 := h2.1.2
  unfold kindHolds at h3
  split at h3
  · simp at h3; omega
  · split at h3
    · simp at h3; omega
    · split at h3
      · simp at h3; omega
      · simp at h3

theorem Got.mono {lo hi lo' hi' : Nat} {w : World} {v : Value} {f : Ft} (h : Got lo hi w v f) (h1 : lo' ≤ lo) (h2 : hi ≤ hi') : Got lo' hi' w v f := by
  obtain ⟨ax, cx, ay, cy, q1, q2, q3, q4, q5⟩ := h
  exact ⟨ax, cx, ay, cy, q1, q2, q3, q4.imp id fun h x hx => ⟨Nat.le_trans h1 (h x hx).1, Nat.lt_of_lt_of_le (h x hx).2 h2⟩, q5.imp id fun h x hx => ⟨Nat.le_trans h1 (h x hx).1, Nat.lt_of_lt_of_le (h x hx).2 h2⟩⟩

/-- four stores into a box -/
theorem turned4 (w : World) (r : Nat) (x0 x1 x2 x3 : Value) : Turned w ((((w.setCell ⟨r, 0, none⟩ x0).setCell ⟨r, 1, none⟩ x1).setCell ⟨r, 2, none⟩ x2).setCell ⟨r, 3, none⟩ x3) (fun x => x = r) :=
  (((Turned.of_set (S := fun x => x = r) w _ _ rfl).trans (Turned.of_set _ _ _ rfl)).trans (Turned.of_set _ _ _ rfl)).trans (Turned.of_set _ _ _ rfl)

theorem FeatAns.got {w w' : World} {id : ByteArray} {k : Int} {ps : List (Int × Int)} {ts : List Tg} {v : Value} (h : FeatAns w id k ps ts v w') : Got w.heap.size w'.heap.size w' v (id, k, ps, ts) ∧ Below w.heap.size w w' := by
  obtain ⟨a, cap, c, ca, h1, h2, _, h4, h5, _, h7, _, h9⟩ := h
  exact ⟨⟨a, cap, c, ca, h1, h2, h5, .inr h4, .inr h7⟩, h9⟩

set_option maxHeartbeats 2000000 in
theorem l2Copy_got (id : ByteArray) (k : Int) (a : Option Addr) (cap : Nat) (ps : List (Int × Int)) (c : Option Addr) (ca : Nat) (ts : List Tg) (w : World) (hp : PtsAt w a ps) (ht : TagsAt w c ts) (hl : ps.length ≤ 1048576) (h0 : 0 < ps.length) (hm : ts.length ≤ 1048576) :
    Calls Tryz.prog 73 #[.agg #[.string id, .int .i64 k, .slice a ps.length cap, .slice c ts.length ca]] w fun e w' => (∃ v, e = .returned v ∧ Got w.heap.size w'.heap.size w' v (id, k, ps, ts)) ∧ Below w.heap.size w w' := by
  obtain ⟨b, off, rfl, _⟩ := hp 0 h0
  by_cases h1 : 0 < ts.length
  · obtain ⟨b2, off2, rfl, _⟩ := ht 0 h1
    refine (l2Copy_any id k b off cap ps b2 off2 ca ts w hp ht hl h0 hm h1).mono ?_
    rintro e w' ⟨v, rfl, h⟩
    exact ⟨⟨v, rfl, h.got.1⟩, h.got.2⟩
  · obtain rfl : ts = [] := List.eq_nil_of_length_eq_zero (by omega)
    refine (l2Copy_n0 id k b off cap ps c ca w hp hl h0).mono ?_
    rintro e w' ⟨ax, cx, ay, cy, rfl, ⟨q1, _, q3⟩, hb⟩
    exact ⟨⟨_, rfl, ax, cx, ay, cy, rfl, q1, TagsAt.nil _ _, .inr q3, .inl rfl⟩, hb⟩

end Go.Proofs.YtccgbengfmlgbaaGreat
