/- Proved here: the function that marks a list of things does so thing by thing; lists of at most 1,048,576 things, points and tags. Proved here: appending nothing to an empty row leaves it; the model's copy of a shape, with points or without; at most 1,048,576 points. Proved here: the library's copy of a list of points and of a list of tags, with any number of them, lies in memory of its own; at most 1,048,576 of them. Proved here: the program's copy of a thing lies in memory of its own; at most 1,048,576 points and tags. Proved here: a list of things that is built by appending copies, its parts apart from each other and from the row; no condition. Proved here: the copies of a list of things, by the program; at most 1,048,576 things. Proved here: contracts of the small functions over rows of numbers: size, copy, comparison; rows of at most 1,048,576 numbers. -/
import Derived.Test.YtdfadpejddhbkaaGreatWMarkList
import Derived.Test.YtdfadpejddhbkaaGreatWCopyF
import Derived.Deep.RegionHeld3
import Derived.Deep.DeepCutAuto
import Derived.Deep.AppendLies
import Derived.Test.YtdfadpejddhbkaaGreatWBase
import Derived.StillTailTactics
namespace Go.Proofs.YtdfadpejddhbkaaGreat
set_option linter.unusedVariables false
open Go.ChangeShapes Go.WideShapes Go.ChangeAt Go.RowKit

set_option maxRecDepth 100000 in
set_option maxHeartbeats 4000000 in
theorem markFeatS_some (b off cap : Nat) (fs : List Ft) (ad : Nat → Pl) (k : Int) (w : World) (hl : fs.length ≤ 1048576) (hL : FeatsLen fs 1048576) (h0 : 0 ≤ k) (h4 : k ≤ 1000000000000000) (hlie : Lies w b off fs ad) (hsep : Sep b fs.length ad) :
    Calls Tryz.prog 47 #[.slice (some ⟨b, off, none⟩) fs.length cap, .int .i64 k] w fun e w' => e = .returned (.int .i64 (lmk fs k fs.length)) ∧ Lies w' b off (lmkTo fs k fs.length) ad ∧ Turned w w' (blocksOf b fs.length ad) := by
  have HL := Lib.hid hL
  have HLie : Hid (Lies w b off (lmkTo fs k 0) ad) := by rw [lmkTo_zero]; exact hlie
  have HS := Lib.hid hsep
  clear hL hlie hsep
  go_enter Tryz.func47, Tryz.ntmps47
  go_wp2
  go_loopw [1, 5] (fun s1 i wr => ∃ j : Nat, j ≤ fs.length ∧ s1 = .int .i64 (lmk fs k j) ∧ i = .int .i64 j ∧ Lies wr b off (lmkTo fs k j) ad ∧ Turned w wr (blocksOf b fs.length ad)) (fun _ i _ => fs.length - (intOf i).toNat)
  case atStart => exact ⟨0, Nat.zero_le _, rfl, rfl, HLie.out, Turned.refl _ _⟩
  case round =>
    clear HLie
    obtain ⟨j, hj, rfl, rfl, hlie, htu⟩ := hrel
    have HLi := Lib.hid hlie
    have HT := Lib.hid htu
    have blt := hlie.lt
    clear hlie htu
    obtain ⟨k0, k1⟩ := lmk_le h0 h4 HL.out j hj
    by_cases hlt : j < fs.length
    · obtain ⟨l1, l2, l3, l4⟩ := HL.out j hlt
      clear l4
      have hlj : j < (lmkTo fs k j).length := by rw [lmkTo_len]; exact hlt
      go_wp2_with fail
      refine (markText_any _ _ (by omega)).mono ?_
      rintro e w1 ⟨rfl, hb1⟩
      have L1 := Lib.hid (HLi.out.below hb1)
      have T1 : Hid (Turned w w1 (blocksOf b fs.length ad)) := HT.out.trans (Turned.of_below hb1)
      clear hb1 HLi HT
      obtain ⟨c0, c1, c2, c3⟩ := L1.out.cell j hlj
      obtain ⟨f0, f1⟩ := L1.out.soft j hlj
      rw [(lmkTo_pl k j hlt).1] at c2
      rw [(lmkTo_pl k j hlt).2] at c3
      have ob1 : blk (ad j).1.1 ≠ some b := (HS.out.own j hlt).1
      have ob2 : blk (ad j).2.1 ≠ some b := (HS.out.own j hlt).2
      go_wp2_with fail
      generalize h3 : (w1.setCell ⟨b, off + j * 4, none⟩ (.string (markT (lmk fs k j)))).setCell ⟨b, off + j * 4 + 1, none⟩ (.int .i64 (lmk fs k j + 1)) = w3
      have t3 : Turned w1 w3 (fun x => x = b) := by
        rw [← h3]
        exact (Turned.of_set (S := fun x => x = b) w1 _ _ rfl).trans (Turned.of_set _ _ _ rfl)
      have hpl : fps (lmkTo fs k j) j = fps fs j := by unfold fps; rw [lmkTo_at k j hlt, if_neg (by omega)]
      have htl : fts (lmkTo fs k j) j = fts fs j := by unfold fts; rw [lmkTo_at k j hlt, if_neg (by omega)]
      obtain ⟨p1, p2⟩ := L1.out.pts j hlj
      obtain ⟨q1, q2⟩ := L1.out.tags j hlj
      rw [hpl] at p1 p2
      rw [htl] at q1 q2
      have np : ∀ x, blk (ad j).1.1 = some x → ¬ x = b := fun x hx e => ob1 (e ▸ hx)
      have nt : ∀ x, blk (ad j).2.1 = some x → ¬ x = b := fun x hx e => ob2 (e ▸ hx)
      have P3 := Lib.hid (p1.turned t3 np)
      have P3s := Lib.hid (p2.turnedP p1 t3 np)
      have Q3 := Lib.hid (q1.turned t3 nt)
      have Q3s := Lib.hid (q2.turnedT q1 t3 nt)
      have c3' : w3.cell? ⟨b, off + j * 4 + 3, none⟩ = some (.slice (ad j).2.1 (fts fs j).length (ad j).2.2) := by
        rw [← h3, World.cell?_setCell_other _ _ _ _ (by simp), World.cell?_setCell_other _ _ _ _ (by simp)]
        exact c3
      have T3 : Hid (Turned w w3 (blocksOf b fs.length ad)) := T1.out.trans ⟨t3.os, t3.tape, t3.output, t3.size, fun x hx hn => t3.block x hx (fun e => hn (.inl e))⟩
      have H3 := Lib.hid h3
      clear h3 t3 p1 p2 q1 q2 hpl htl c0 c1 c2 c3 f0 f1 T1 np nt
      refine (markPtS_any _ _ _ _ _ P3.out P3s.out (by omega) (by omega) (by omega)).mono ?_
      rintro e w4 ⟨rfl, g1, g2, g3, g4⟩
      have Q4 : Hid (TagsAt w4 (ad j).2.1 (fts fs j)) := Q3.out.turned (S := fun x => blk (ad j).1.1 = some x) (Turned.of_grown g3 fun x hx => hx) fun x hx he => HS.out.two j hlt x he hx
      have Q4s : Hid (Soft w4 (ad j).2.1 (fts fs j).length) := Q3s.out.turnedT Q3.out (S := fun x => blk (ad j).1.1 = some x) (Turned.of_grown g3 fun x hx => hx) fun x hx he => HS.out.two j hlt x he hx
      replace c3' : w4.cell? ⟨b, off + j * 4 + 3, none⟩ = some (.slice (ad j).2.1 (fts fs j).length (ad j).2.2) := g3.cell c3' (fun e => ob1 e.symm)
      have T4 : Hid (Turned w w4 (blocksOf b fs.length ad)) := T3.out.trans (Turned.of_grown g3 fun x hx => .inr ⟨j, hlt, .inl hx⟩)
      have G1 := Lib.hid g1
      have G2 := Lib.hid g2
      have G3 := Lib.hid g3
      clear g1 g2 g3 g4 T3 Q3 Q3s P3 P3s
      go_wp2_with fail
      refine (markTagS_any _ _ _ _ _ Q4.out Q4s.out (by omega) (by omega) (by omega)).mono ?_
      rintro e w5 ⟨rfl, r1, r2, r3⟩
      have e2 : lmk fs k j + 1 + 1 = lmk fs k j + 2 := by omega
      rw [e2] at r1
      have G1' := G1.out
      rw [e2] at G1'
      have L5 : Hid (Lies w5 b off (lmkTo fs k (j + 1)) ad) := L1.out.step hlt HS.out H3.out.symm G1' G2.out G3.out r1 r2 r3
      have T5 : Hid (Turned w w5 (blocksOf b fs.length ad)) := T4.out.trans (Turned.of_grown r3 fun x hx => .inr ⟨j, hlt, .inr hx⟩)
      clear r1 r2 r3 c3' G1'
      go_wp2
      go_roundw
      case rel => exact ⟨j + 1, by omega, congrArg (Value.int .i64) (by show _ = lmk fs k j + 2 + 2 * ((fps fs j).length : Int) + 2 * ((fts fs j).length : Int); omega), by go_num, L5.out, T5.out⟩
      case measure => simp [intOf]; omega
    · obtain rfl : j = fs.length := by omega
      go_wp2
      go_ret
      exact ⟨rfl, HLi.out, HT.out⟩
end Go.Proofs.YtdfadpejddhbkaaGreat

namespace Go.Proofs.YtdfadpejddhbkaaGreat
set_option linter.unusedVariables false
open Go.ChangeShapes Go.WideShapes Go.ChangeAt Go.RowKit Go.Deep

theorem run_append0 {P : Program} (w : World) (t ty e : TypeId) (i : TypeInfo) (ht : P.underlying t = some (.slice e)) (hi : P.info? e = some i) (g c : Nat) (a : Option Addr) :
    (Builtin.append_ #[t, t] ty #[.slice (some ⟨g, 0, none⟩) 0 0, .slice a 0 c]).run P w = .ok (.slice (some ⟨g, 0, none⟩) 0 0) w := by
  cases a with
  | none => simp [Builtin.append_, run_underlying ht, sizeOf, typeInfo, hi, Builtin.lenOf, Builtin.firstCells, loadCells, loadCellsFrom, storeCells]
  | some x => simp [Builtin.append_, run_underlying ht, sizeOf, typeInfo, hi, Builtin.lenOf, Builtin.firstCells, loadCells, loadCellsFrom, storeCells]

/-- at a step of a region that draws its order -/
theorem step_append0 {P : Program} (w : World) {ops : Array Oper} {o : Oper} {a : Act} {K : Act → World → Prop} {Q : Exit → Act → World → Prop} {E : Prop} (hgd : o.guard = none) (s x : Operand) (t : TypeId)
    (ho : o.op = .call { callee := .builtin .append, args := #[s, x], argTypes := #[t, t] }) (e : TypeId) (i : TypeInfo) (ht : P.underlying t = some (.slice e)) (hi : P.info? e = some i)
    (g c : Nat) (ad : Option Addr) (hs : a.eval s = .slice (some ⟨g, 0, none⟩) 0 0) (hx : a.eval x = .slice ad 0 c)
    (h : K (a.put o.dst (.slice (some ⟨g, 0, none⟩) 0 0)) w) : if Region.wanted o (yielded ops a.tmps) = true then Oper.wp P o a w K Q else E := by
  have hw : Region.wanted o (yielded ops a.tmps) = true := by simp [Region.wanted, hgd]
  rw [if_pos hw]
  have hr := run_append0 (P := P) w t o.type e i ht hi g c ad
  unfold Oper.wp execOp
  simp only [ho, resolve, invoke, builtin, Sem.run_bind, Sem.run_pure, Result.andThen_ok, List.map_toArray, List.map_cons, List.map_nil, hs, hx, hr]
  exact h

set_option maxHeartbeats 2000000 in
theorem l1Copy_nil (k : Int) (a : Option Addr) (cap : Nat) (w : World) :
    Calls Tryz.prog 117 #[.agg #[.int .i64 k, .slice a 0 cap]] w fun e w' => ∃ g, e = .returned (.agg #[.int .i64 k, .slice (some ⟨g, 0, none⟩) 0 0]) ∧ Below w.heap.size w w' := by
  obtain ⟨i0, hi, hz0, hz1, hz2⟩ := info_parts infoPt
  have HI := Lib.hid hi
  clear hi hz0 hz1 hz2
  go_enter Tryz.func117, Tryz.ntmps117
  go_wp2
  go_region_law (refine step_append0 _ (by rfl) _ _ _ (by rfl) 148 i0 Tryz.underlying28 HI.out _ _ _ (by rfl) (by rfl) ?_)
  all_goals go_wp2
  all_goals refine bodyPost_ret (v := .agg #[.int .i64 k, .slice (some ⟨w.heap.size + 1 + 1, 0, none⟩) 0 0]) (by simp [results, Tryz.results117, go_sem]) rfl ⟨_, rfl, ?_⟩
  all_goals exact ((((Below.refl _ _).alloc (Nat.le_refl _) _).alloc (by simp) _).alloc (by simp; omega) _).drew
end Go.Proofs.YtdfadpejddhbkaaGreat

namespace Go.Proofs.YtdfadpejddhbkaaGreat
set_option linter.unusedVariables false
open Go.ChangeShapes Go.WideShapes Go.ChangeAt Go.RowKit Go.Deep

theorem wpList_append0 {P : Program} {w : World} {ops : Array Oper} {rest : List Oper} {o : Oper} {a : Act} {Q : Exit → Act → World → Prop} (hgd : o.guard = none) (s x : Operand) (t : TypeId)
    (ho : o.op = .call { callee := .builtin .append, args := #[s, x], argTypes := #[t, t] }) (e : TypeId) (i : TypeInfo) (ht : P.underlying t = some (.slice e)) (hi : P.info? e = some i)
    (g c : Nat) (ad : Option Addr) (hs : a.eval s = .slice (some ⟨g, 0, none⟩) 0 0) (hx : a.eval x = .slice ad 0 c)
    (h : wpList P ops Q rest (a.put o.dst (.slice (some ⟨g, 0, none⟩) 0 0)) w) : wpList P ops Q (o :: rest) a w :=
  wpList_plain hgd fun _ hK => by
    have hr := run_append0 (P := P) w t o.type e i ht hi g c ad
    unfold Oper.wp execOp
    simp only [ho, resolve, invoke, builtin, Sem.run_bind, Sem.run_pure, Result.andThen_ok, List.map_toArray, List.map_cons, List.map_nil, hs, hx, hr]
    exact hK _ _ h


/-- what a copy of points answers -/
def CloneP (w : World) (xs : List (Int × Int)) (e : Ending) (w' : World) : Prop :=
  ∃ g c, e = .returned (.slice g xs.length c) ∧ PtsAt w' g xs ∧ Soft w' g xs.length ∧ Fresh w w' g ∧ Below w.heap.size w w'

set_option maxRecDepth 100000 in
set_option maxHeartbeats 2000000 in
theorem cloneP_any (a : Option Addr) (cap : Nat) (xs : List (Int × Int)) (w : World) (hp : PtsAt w a xs) (hl : xs.length ≤ 1048576) :
    Calls Tryz.prog 115 #[.slice a xs.length cap] w (CloneP w xs) := by
  have HP := Lib.hid hp
  clear hp
  obtain ⟨i0, hi, hz0, hz1, hz2⟩ := info_parts infoPt
  have HI := Lib.hid hi
  have HZ0 := Lib.hid hz0
  have HZ1 := Lib.hid hz1
  have HZ2 := Lib.hid hz2
  clear hi hz0 hz1 hz2
  have heq := fun w => Lib.run_eql_slice_nil (P := Tryz.prog) w 28 148 a xs.length cap 0 0 Tryz.underlying28
  by_cases h0 : 0 < xs.length
  · obtain ⟨b, off, rfl, _⟩ := HP.out 0 h0
    go_enter Tryz.func115, Tryz.ntmps115
    go_wp2_with (at_builtin; refine wpList_append_lies _ (by rfl) _ _ _ (by rfl) w.heap.size 148 i0 _ 2 16 Tryz.underlying28 HI.out HZ0.out HZ1.out HZ2.out rfl (by omega) (.slice (some ⟨w.heap.size, 0, none⟩) 0 0) 0 [] (by rfl) (World.ownsRow_made w #[] 0 (Nat.le_refl _) (by unfold maxLen; omega) rfl) ⟨b, off, none⟩ xs.length cap (flat xs) (by rfl) (flat_len xs) (news_pts (HP.out.below ((Below.refl _ _).alloc (Nat.le_refl _) _))) (flat_one xs) h0 (by unfold maxLen; omega) (by omega) (by simp) (w.heap.size + 1) (by simp) ?_; intro gg cap' wa hown1 hgrow hat hlt')
    go_ret
    rw [Nat.zero_add, List.nil_append] at hown1
    obtain ⟨a2, cap2, e2, hpt, hso, hnew⟩ := owned_pts hown1 rfl
    obtain ⟨rfl, rfl⟩ : some ⟨gg, 0, none⟩ = a2 ∧ cap' = cap2 := by simpa using e2
    refine ⟨_, cap', rfl, hpt, hso, fun x hx => ⟨(hnew x hx).1, (hnew x hx).2⟩, ((Below.refl _ _).alloc (Nat.le_refl _) _).grown hgrow (by simp) (fun j e => by simp [Value.ownBlock] at e; omega)⟩
  · obtain rfl : xs = [] := List.eq_nil_of_length_eq_zero (by omega)
    clear h0 hl HP HZ0 HZ1 HZ2
    rw [show ([] : List (Int × Int)).length = 0 from rfl] at *
    cases a with
    | none =>
      go_enter Tryz.func115, Tryz.ntmps115
      go_wp2
      go_ret
      exact ⟨none, 0, rfl, PtsAt.nil _ _, fun i hi => absurd hi (Nat.not_lt_zero _), fun x hx => by simp [blk] at hx, Below.refl _ _⟩
    | some ad =>
      go_enter Tryz.func115, Tryz.ntmps115
      go_wp2_with (at_builtin; refine wpList_append0 (by rfl) _ _ _ (by rfl) 148 i0 Tryz.underlying28 HI.out w.heap.size cap (some ad) (by rfl) (by rfl) ?_)
      go_ret
      refine ⟨some ⟨w.heap.size, 0, none⟩, 0, rfl, PtsAt.nil _ _, fun i hi => absurd hi (Nat.not_lt_zero _), fun x hx => ?_, (Below.refl _ _).alloc (Nat.le_refl _) _⟩
      obtain rfl : w.heap.size = x := by simpa [blk] using hx
      exact ⟨Nat.le_refl _, by simp⟩

/-- what a copy of tags answers -/
def CloneT (w : World) (xs : List Tg) (e : Ending) (w' : World) : Prop :=
  ∃ g c, e = .returned (.slice g xs.length c) ∧ TagsAt w' g xs ∧ Soft w' g xs.length ∧ Fresh w w' g ∧ Below w.heap.size w w'

set_option maxRecDepth 100000 in
set_option maxHeartbeats 2000000 in
theorem cloneT_any (a : Option Addr) (cap : Nat) (xs : List Tg) (w : World) (hp : TagsAt w a xs) (hl : xs.length ≤ 1048576) :
    Calls Tryz.prog 116 #[.slice a xs.length cap] w (CloneT w xs) := by
  have HP := Lib.hid hp
  clear hp
  obtain ⟨i0, hi, hz0, hz1, hz2⟩ := info_parts infoT
  have HI := Lib.hid hi
  have HZ0 := Lib.hid hz0
  have HZ1 := Lib.hid hz1
  have HZ2 := Lib.hid hz2
  clear hi hz0 hz1 hz2
  have heq := fun w => Lib.run_eql_slice_nil (P := Tryz.prog) w 31 92 a xs.length cap 0 0 Tryz.underlying31
  by_cases h0 : 0 < xs.length
  · obtain ⟨b, off, rfl, _⟩ := HP.out 0 h0
    go_enter Tryz.func116, Tryz.ntmps116
    go_wp2_with (at_builtin; refine wpList_append_lies _ (by rfl) _ _ _ (by rfl) w.heap.size 92 i0 _ 2 32 Tryz.underlying31 HI.out HZ0.out HZ1.out HZ2.out rfl (by omega) (.slice (some ⟨w.heap.size, 0, none⟩) 0 0) 0 [] (by rfl) (World.ownsRow_made w #[] 0 (Nat.le_refl _) (by unfold maxLen; omega) rfl) ⟨b, off, none⟩ xs.length cap (flatT xs) (by rfl) (flatT_len xs) (news_tags (HP.out.below ((Below.refl _ _).alloc (Nat.le_refl _) _))) (flatT_one xs) h0 (by unfold maxLen; omega) (by omega) (by simp) (w.heap.size + 1) (by simp) ?_; intro gg cap' wa hown1 hgrow hat hlt')
    go_ret
    rw [Nat.zero_add, List.nil_append] at hown1
    obtain ⟨a2, cap2, e2, hpt, hso, hnew⟩ := owned_tags hown1 rfl
    obtain ⟨rfl, rfl⟩ : some ⟨gg, 0, none⟩ = a2 ∧ cap' = cap2 := by simpa using e2
    refine ⟨_, cap', rfl, hpt, hso, fun x hx => ⟨(hnew x hx).1, (hnew x hx).2⟩, ((Below.refl _ _).alloc (Nat.le_refl _) _).grown hgrow (by simp) (fun j e => by simp [Value.ownBlock] at e; omega)⟩
  · obtain rfl : xs = [] := List.eq_nil_of_length_eq_zero (by omega)
    clear h0 hl HP HZ0 HZ1 HZ2
    rw [show ([] : List Tg).length = 0 from rfl] at *
    cases a with
    | none =>
      go_enter Tryz.func116, Tryz.ntmps116
      go_wp2
      go_ret
      exact ⟨none, 0, rfl, TagsAt.nil _ _, fun i hi => absurd hi (Nat.not_lt_zero _), fun x hx => by simp [blk] at hx, Below.refl _ _⟩
    | some ad =>
      go_enter Tryz.func116, Tryz.ntmps116
      go_wp2_with (at_builtin; refine wpList_append0 (by rfl) _ _ _ (by rfl) 92 i0 Tryz.underlying31 HI.out w.heap.size cap (some ad) (by rfl) (by rfl) ?_)
      go_ret
      refine ⟨some ⟨w.heap.size, 0, none⟩, 0, rfl, TagsAt.nil _ _, fun i hi => absurd hi (Nat.not_lt_zero _), fun x hx => ?_, (Below.refl _ _).alloc (Nat.le_refl _) _⟩
      obtain rfl : w.heap.size = x := by simpa [blk] using hx
      exact ⟨Nat.le_refl _, by simp⟩
end Go.Proofs.YtdfadpejddhbkaaGreat

namespace Go.Proofs.YtdfadpejddhbkaaGreat
set_option linter.unusedVariables false
open Go.ChangeShapes Go.WideShapes Go.ChangeAt Go.RowKit Go.Deep

theorem TagsAt.turned2 {w w' : World} {a : Option Addr} {ts : List Tg} {S : Nat → Prop} (h : TagsAt w a ts) (ht : Turned w w' S) (hn : ts.length ≠ 0 → ∀ x, blk a = some x → ¬ S x) : TagsAt w' a ts := by
  intro i hi
  obtain ⟨b, off, rfl, hlt, h1, h2⟩ := h i hi
  exact ⟨b, off, rfl, Nat.lt_of_lt_of_le hlt ht.size, ht.cell h1 (hn (by omega) b rfl), ht.cell h2 (hn (by omega) b rfl)⟩

theorem TagsAt.set {w : World} {a : Option Addr} {ts : List Tg} (h : TagsAt w a ts) {c o : Nat} {v : Value} (hne : blk a ≠ some c) : TagsAt (w.setCell ⟨c, o, none⟩ v) a ts :=
  h.grown (r := some c) (grown_set (World.grownBy.refl _ _) _ _) (.inr hne)

def BoxS (w : World) (b : Nat) (v0 v1 v2 v3 : Value) : Prop := Box4 w b v0 v1 v2 v3 ∧ ∀ o, w.frozen? ⟨b, o, none⟩ = false
theorem BoxS.later {w w' : World} {b : Nat} {v0 v1 v2 v3 : Value} (h : BoxS w b v0 v1 v2 v3) (hb : Below w.heap.size w w') : BoxS w' b v0 v1 v2 v3 := ⟨h.1.later hb, fun o => (hb.frozen (p := ⟨b, o, none⟩) h.1.lt).trans (h.2 o)⟩
theorem BoxS.new (w : World) (v0 v1 v2 v3 : Value) (t : TypeId) : BoxS (w.alloc (.cells #[v0, v1, v2, v3] t)) w.heap.size v0 v1 v2 v3 := ⟨Box4.new w v0 v1 v2 v3 t, fun o => by simp [go_sem]⟩

/-- a shape in a box made since, its points in a row made since -/
def ShBoxC (W : World) (k : Int) (ps : List (Int × Int)) (s : Nat) (ga : Option Addr) (cap2 : Nat) (wx : World) : Prop :=
  wx.cell? ⟨s, 0, none⟩ = some (.int .i64 k) ∧ wx.cell? ⟨s, 1, none⟩ = some (.slice ga ps.length cap2) ∧ PtsAt wx ga ps ∧ Soft wx ga ps.length ∧ (∀ x, blk ga = some x → W.heap.size ≤ x ∧ x < wx.heap.size) ∧ W.heap.size ≤ s ∧ s < wx.heap.size ∧ Below W.heap.size W wx

theorem shBoxC_late {W wn : World} {k : Int} {ps : List (Int × Int)} {ga : Option Addr} {cap2 : Nat} {t : TypeId} (hpt : PtsAt wn ga ps) (hso : Soft wn ga ps.length) (hg : Fresh W.drew wn ga) (hb : Below W.heap.size W wn) :
    ShBoxC W k ps wn.heap.size ga cap2 (wn.alloc (.cells #[.int .i64 k, .slice ga ps.length cap2] t)) := by
  have ba : Below wn.heap.size wn (wn.alloc (.cells #[.int .i64 k, .slice ga ps.length cap2] t)) := (Below.refl _ _).alloc (Nat.le_refl _) _
  exact ⟨by simp [go_sem], by simp [go_sem], hpt.below ba, hso.below hpt ba, fun x hx => ⟨(hg x hx).1, by have := (hg x hx).2; simp; omega⟩, hb.size, by simp, hb.trans (ba.mono hb.size)⟩

theorem shBoxC_soon {W wn : World} {k : Int} {ps : List (Int × Int)} {ga : Option Addr} {cap2 : Nat} {O : Obj} {u0 u1 : Value} (hpt : PtsAt wn ga ps) (hso : Soft wn ga ps.length) (hg : Fresh (W.alloc O).drew wn ga) (hb : Below W.heap.size W wn) (c0 : wn.cell? ⟨W.heap.size, 0, none⟩ = some u0) (c1 : wn.cell? ⟨W.heap.size, 1, none⟩ = some u1) :
    ShBoxC W k ps W.heap.size ga cap2 ((wn.setCell ⟨W.heap.size, 0, none⟩ (.int .i64 k)).setCell ⟨W.heap.size, 1, none⟩ (.slice ga ps.length cap2)) := by
  have hne : blk ga ≠ some W.heap.size := fun e => by have := (hg _ e).1; change (W.alloc O).heap.size ≤ _ at this; simp at this; omega
  refine ⟨?_, ?_, (hpt.set hne).set hne, (hso.set _ _).set _ _, fun x hx => ⟨by have := (hg x hx).1; change (W.alloc O).heap.size ≤ _ at this; simp at this; omega, by have := (hg x hx).2; simpa [World.setCell] using this⟩, Nat.le_refl _, by have := World.block_lt_of_cell? _ _ c0; simpa [World.setCell] using this, (hb.setCell (Nat.le_refl _) _).setCell (Nat.le_refl _) _⟩
  · rw [World.cell?_setCell_other _ _ _ _ (by simp)]
    exact World.cell?_setCell_same _ _ _ c0
  · exact World.cell?_setCell_same _ _ _ ((World.cell?_setCell_other _ _ _ _ (by simp)).trans c1)

theorem boxFacts {W wn : World} (hbn : Below ((W.alloc (.cells #[.int .i64 0, .slice none 0 0] 30)).drew).heap.size ((W.alloc (.cells #[.int .i64 0, .slice none 0 0] 30)).drew) wn) :
    wn.cell? ⟨W.heap.size, 0, none⟩ = some (.int .i64 0) ∧ wn.cell? ⟨W.heap.size, 1, none⟩ = some (.slice none 0 0) ∧ wn.frozen? ⟨W.heap.size, 0, none⟩ = false ∧ wn.frozen? ⟨W.heap.size, 1, none⟩ = false := by
  refine ⟨cell_later hbn (by simp [go_sem]), cell_later hbn (by simp [go_sem]), ?_, ?_⟩
  · rw [hbn.frozen (p := ⟨W.heap.size, 0, none⟩) (by simp)]
    simp [go_sem]
  · rw [hbn.frozen (p := ⟨W.heap.size, 1, none⟩) (by simp)]
    simp [go_sem]

theorem Kept1.box {W wy : World} {r : Nat} {v0 v1 v2 v3 : Value} (hk : Kept1 W r wy) (h4 : ∀ i, i < 4 → (W.cell? ⟨r, i, none⟩).isSome = true) :
    Box4 ((((wy.setCell ⟨r, 0, none⟩ v0).setCell ⟨r, 1, none⟩ v1).setCell ⟨r, 2, none⟩ v2).setCell ⟨r, 3, none⟩ v3) r v0 v1 v2 v3 := by
  obtain ⟨u0, s0⟩ := Option.isSome_iff_exists.1 (hk.some 0 (h4 0 (by omega)))
  obtain ⟨u1, s1⟩ := Option.isSome_iff_exists.1 (hk.some 1 (h4 1 (by omega)))
  obtain ⟨u2, s2⟩ := Option.isSome_iff_exists.1 (hk.some 2 (h4 2 (by omega)))
  obtain ⟨u3, s3⟩ := Option.isSome_iff_exists.1 (hk.some 3 (h4 3 (by omega)))
  have far : ∀ (w : World) (o o' : Nat) (v : Value), o ≠ o' → (w.setCell ⟨r, o, none⟩ v).cell? ⟨r, o', none⟩ = w.cell? ⟨r, o', none⟩ := fun w o o' v hne => World.cell?_setCell_other w ⟨r, o, none⟩ ⟨r, o', none⟩ v (fun h => hne (congrArg Addr.off h))
  refine ⟨?_, ?_, ?_, ?_⟩
  · rw [far _ _ _ _ (by omega), far _ _ _ _ (by omega), far _ _ _ _ (by omega)]
    exact World.cell?_setCell_same _ _ _ s0
  · rw [far _ _ _ _ (by omega), far _ _ _ _ (by omega)]
    exact World.cell?_setCell_same _ _ _ ((far _ _ _ _ (by omega)).trans s1)
  · rw [far _ _ _ _ (by omega)]
    exact World.cell?_setCell_same _ _ _ ((far _ _ _ _ (by omega)).trans ((far _ _ _ _ (by omega)).trans s2))
  · exact World.cell?_setCell_same _ _ _ ((far _ _ _ _ (by omega)).trans ((far _ _ _ _ (by omega)).trans ((far _ _ _ _ (by omega)).trans s3)))

theorem drewBelow {W wn : World} (hbn : Below W.drew.heap.size W.drew wn) : Below W.heap.size W wn := ((Below.refl _ W).drew).trans hbn

theorem boxBelow {W wn : World} {O : Obj} (hbn : Below ((W.alloc O).drew).heap.size ((W.alloc O).drew) wn) : Below W.heap.size W wn :=
  (((Below.refl _ W).alloc (Nat.le_refl _) O).drew).trans (hbn.mono (by simp))

set_option maxRecDepth 100000 in
set_option maxHeartbeats 6400000 in
theorem featCopy_any (id : ByteArray) (k : Int) (a : Option Addr) (cap : Nat) (ps : List (Int × Int)) (c : Option Addr) (ca : Nat) (ts : List Tg) (w : World) (hp : PtsAt w a ps) (ht : TagsAt w c ts) (hl : ps.length ≤ 1048576) (hm : ts.length ≤ 1048576) :
    Calls Tryz.prog 62 #[.agg #[.string id, .int .i64 k, .slice a ps.length cap, .slice c ts.length ca]] w fun e w' => ∃ v, e = .returned v ∧ FeatAns w id k ps ts v w' := by
  have HP := Lib.hid hp
  have HT := Lib.hid ht
  have NC : Hid (ts.length ≠ 0 → ∀ x, blk c = some x → ¬ x = w.heap.size + 1) := fun h x hx e => by
    obtain ⟨b, off, rfl, hlt, _⟩ := ht 0 (by omega)
    obtain rfl : b = x := by simpa [blk] using hx
    omega
  clear hp ht
  go_enter Tryz.func62, Tryz.ntmps62
  go_upto_region 1 with (fail)
  obtain ⟨W, hW⟩ : ∃ W, W = ((w.alloc (.cells #[.string id, .int .i64 k, .slice a ps.length cap, .slice c ts.length ca] 33)).alloc (.cells #[.string ⟨#[]⟩, .int .i64 0, .slice none 0 0, .slice none 0 0] 33)) := ⟨_, rfl⟩
  have B0 : Hid (Below w.heap.size w W) := by rw [hW]; exact ((Below.refl _ _).alloc (Nat.le_refl _) _).alloc (by simp) _
  have hz : Hid (W.heap.size = w.heap.size + 1 + 1) := by show _ = _; rw [hW]; simp
  have RB : Hid (BoxS W (w.heap.size + 1) (.string ⟨#[]⟩) (.int .i64 0) (.slice none 0 0) (.slice none 0 0)) := by
    have := BoxS.new (w.alloc (.cells #[.string id, .int .i64 k, .slice a ps.length cap, .slice c ts.length ca] 33)) (.string ⟨#[]⟩) (.int .i64 0) (.slice none 0 0) (.slice none 0 0) 33
    rw [hW]
    simpa [Hid] using this
  have CB : Hid (Box4 W w.heap.size (.string id) (.int .i64 k) (.slice a ps.length cap) (.slice c ts.length ca)) := by rw [hW]; exact (Box4.new w _ _ _ _ _).alloc _
  have SOF : Hid (∀ wy, Below W.heap.size W wy → wy.cell? ⟨w.heap.size, 0, none⟩ = some (.string id) ∧ wy.cell? ⟨w.heap.size, 1, none⟩ = some (.int .i64 k) ∧ wy.cell? ⟨w.heap.size, 2, none⟩ = some (.slice a ps.length cap) ∧ wy.cell? ⟨w.heap.size, 3, none⟩ = some (.slice c ts.length ca) ∧ Below W.heap.size W wy) := by
    intro wy hb
    obtain ⟨q0, q1, q2, q3⟩ := CB.out.later hb
    exact ⟨q0, q1, q2, q3, hb⟩
  rw [← hW]
  have m1 : ¬ w.heap.size = W.heap.size := by have := hz.out; omega
  have m2 : ¬ w.heap.size + 1 = W.heap.size := by have := hz.out; omega
  clear hW
  go_cut [3] (fun s5 wx => ∃ s ga cap2, s5 = .pointer (some ⟨s, 0, none⟩) ∧ ShBoxC W k ps s ga cap2 wx)
  case first =>
    go_region_held3 (fun wy => wy.cell? ⟨w.heap.size, 0, none⟩ = some (.string id) ∧ wy.cell? ⟨w.heap.size, 1, none⟩ = some (.int .i64 k) ∧ wy.cell? ⟨w.heap.size, 2, none⟩ = some (.slice a ps.length cap) ∧ wy.cell? ⟨w.heap.size, 3, none⟩ = some (.slice c ts.length ca) ∧ Below W.heap.size W wy)
      (first
        | exact SOF.out _ ((Below.refl _ _).drew)
        | (go_split_ands
           rename_i hS
           exact SOF.out _ (hS.trans (hbn.mono hS.size)))
        | (go_split_ands
           rename_i hS
           exact SOF.out _ (hS.alloc hS.size _))
        | exact SOF.out _ ((drewBelow hbn).alloc hbn.size _)
        | (go_split_ands
           rename_i hS
           exact SOF.out _ ((hS.setCell (Nat.le_refl _) _).setCell (Nat.le_refl _) _)))
      (first
        | (go_at_call 115
           refine (cloneP_any a cap ps _ ?_ hl).mono ?_
           · (go_split_ands; rename_i hS; exact HP.out.below (B0.out.trans (hS.mono B0.out.size)))
           rintro e wn ⟨ga, cap2, rfl, hpt, hso, hg, hbn⟩
           try (first | have tf := boxFacts hbn)
           try (obtain ⟨t0, t1, u0, u1⟩ := tf)))
    all_goals (go_wp2_with fail; go_meet; go_split_ands; first | exact ⟨_, ga, cap2, rfl, shBoxC_late hpt hso hg (drewBelow hbn)⟩ | exact ⟨_, ga, cap2, rfl, shBoxC_soon hpt hso hg (boxBelow hbn) t0 t1⟩)
  case rest =>
    obtain ⟨s, ga, cap2, rfl, hsh⟩ := hcut
    obtain ⟨d0, d1, hpt, hso, hg, hs, hslt, hbW⟩ := hsh
    have hz' := hz.out
    have D0 := Lib.hid d0
    have D1 := Lib.hid d1
    have PC := Lib.hid hpt
    have SC := Lib.hid hso
    have RC := Lib.hid (RB.out.later hbW)
    have CC := Lib.hid (CB.out.later hbW)
    have BC : Hid (Below w.heap.size w wc) := B0.out.trans (hbW.mono B0.out.size)
    have TC : Hid (TagsAt wc c ts) := HT.out.below BC.out
    have HGA := Lib.hid hg
    have zc : w.heap.size + 1 < wc.heap.size := RC.out.1.lt
    have H4 : Hid (∀ i, i < 4 → (wc.cell? ⟨w.heap.size + 1, i, none⟩).isSome = true) := by
      intro i hi
      obtain ⟨⟨q0, q1, q2, q3⟩, _⟩ := RC.out
      rcases (show i = 0 ∨ i = 1 ∨ i = 2 ∨ i = 3 by omega) with rfl | rfl | rfl | rfl
      · rw [q0]; rfl
      · rw [q1]; rfl
      · rw [q2]; rfl
      · rw [q3]; rfl
    have SOF2 : Hid (∀ wy, Kept1 wc (w.heap.size + 1) wy → wy.cell? ⟨w.heap.size, 0, none⟩ = some (.string id) ∧ wy.cell? ⟨w.heap.size, 3, none⟩ = some (.slice c ts.length ca) ∧ wy.cell? ⟨s, 0, none⟩ = some (.int .i64 k) ∧ wy.cell? ⟨s, 1, none⟩ = some (.slice ga ps.length cap2) ∧ wy.cell? ⟨(w.heap.size + 1), 0, none⟩ = some (cellOf wy (w.heap.size + 1) 0) ∧ wy.cell? ⟨(w.heap.size + 1), 1, none⟩ = some (cellOf wy (w.heap.size + 1) 1) ∧ wy.cell? ⟨(w.heap.size + 1), 2, none⟩ = some (cellOf wy (w.heap.size + 1) 2) ∧ wy.cell? ⟨(w.heap.size + 1), 3, none⟩ = some (cellOf wy (w.heap.size + 1) 3) ∧ wy.frozen? ⟨(w.heap.size + 1), 0, none⟩ = false ∧ wy.frozen? ⟨(w.heap.size + 1), 1, none⟩ = false ∧ wy.frozen? ⟨(w.heap.size + 1), 2, none⟩ = false ∧ wy.frozen? ⟨(w.heap.size + 1), 3, none⟩ = false ∧ Kept1 wc (w.heap.size + 1) wy) := by
      intro wy hb
      have far : ∀ {x o : Nat} {u : Value}, wc.cell? ⟨x, o, none⟩ = some u → x ≠ w.heap.size + 1 → wy.cell? ⟨x, o, none⟩ = some u := fun h hne => (hb.grown.cell_far _ (World.block_lt_of_cell? _ _ h) (by simpa using hne)).trans h
      have hf : ∀ o, wy.frozen? ⟨w.heap.size + 1, o, none⟩ = false := fun o => (hb.soft _ (by show w.heap.size + 1 < _; omega)).trans (RC.out.2 o)
      exact ⟨far CC.out.1 (by omega), far CC.out.2.2.2 (by omega), far D0.out (by omega), far D1.out (by omega), cellOf_some (hb.some _ (H4.out 0 (by omega))), cellOf_some (hb.some _ (H4.out 1 (by omega))), cellOf_some (hb.some _ (H4.out 2 (by omega))), cellOf_some (hb.some _ (H4.out 3 (by omega))), hf 0, hf 1, hf 2, hf 3, hb⟩
    have ms1 : ¬ s = w.heap.size + 1 := by omega
    have ms2 : ¬ w.heap.size + 1 = s := by omega
    clear d0 d1 hpt hso hbW SOF
    go_upto_region 2 with (fail)
    go_cut [17] (fun s19 wx => ∃ a3 cap3, Box4 wx (w.heap.size + 1) (.string id) (.int .i64 k) (.slice ga ps.length cap2) (.slice a3 ts.length cap3) ∧ PtsAt wx ga ps ∧ Soft wx ga ps.length ∧ TagsAt wx a3 ts ∧ Soft wx a3 ts.length ∧ (∀ x, blk a3 = some x → wc.heap.size ≤ x ∧ x < wx.heap.size) ∧ wc.heap.size ≤ wx.heap.size ∧ Below w.heap.size w wx)
    case first =>
      go_region_held3 (fun wy => wy.cell? ⟨w.heap.size, 0, none⟩ = some (.string id) ∧ wy.cell? ⟨w.heap.size, 3, none⟩ = some (.slice c ts.length ca) ∧ wy.cell? ⟨s, 0, none⟩ = some (.int .i64 k) ∧ wy.cell? ⟨s, 1, none⟩ = some (.slice ga ps.length cap2) ∧ wy.cell? ⟨(w.heap.size + 1), 0, none⟩ = some (cellOf wy (w.heap.size + 1) 0) ∧ wy.cell? ⟨(w.heap.size + 1), 1, none⟩ = some (cellOf wy (w.heap.size + 1) 1) ∧ wy.cell? ⟨(w.heap.size + 1), 2, none⟩ = some (cellOf wy (w.heap.size + 1) 2) ∧ wy.cell? ⟨(w.heap.size + 1), 3, none⟩ = some (cellOf wy (w.heap.size + 1) 3) ∧ wy.frozen? ⟨(w.heap.size + 1), 0, none⟩ = false ∧ wy.frozen? ⟨(w.heap.size + 1), 1, none⟩ = false ∧ wy.frozen? ⟨(w.heap.size + 1), 2, none⟩ = false ∧ wy.frozen? ⟨(w.heap.size + 1), 3, none⟩ = false ∧ Kept1 wc (w.heap.size + 1) wy)
        (first
          | exact SOF2.out _ (Kept1.refl zc).drew
          | (go_split_ands
             rename_i hS
             exact SOF2.out _ (hS.below hbn))
          | (go_split_ands
             rename_i hS
             exact SOF2.out _ ((((hS.set _ _).set _ _).set _ _).set _ _)))
        (first
          | (go_at_call 116
             refine (cloneT_any c ca ts _ ?_ hm).mono ?_
             · (go_split_ands; rename_i hS; exact TC.out.turned2 (S := fun x => x = w.heap.size + 1) ⟨hS.grown.os, hS.grown.tape, hS.grown.output, hS.grown.size, fun x hx hn => hS.grown.block x hx (fun e => hn (by simpa using e))⟩ NC.out)
             rintro e wn ⟨a3, cap3, rfl, hT, hTS, hTN, hbn⟩))
      all_goals
        go_wp2_with fail
        go_meet
        have hk := (Kept1.refl zc).drew.below hbn
        have hb := drewBelow hbn
        have ng : blk ga ≠ some (w.heap.size + 1) := fun e => by have h := (HGA.out _ e).1; omega
        have na : blk a3 ≠ some (w.heap.size + 1) := fun e => by have h := (hTN _ e).1; change wc.heap.size ≤ _ at h; omega
        exact ⟨a3, cap3, hk.box H4.out, ((((PC.out.below hb).set ng).set ng).set ng).set ng, ((((SC.out.below PC.out hb).set _ _).set _ _).set _ _).set _ _, (((hT.set na).set na).set na).set na, (((hTS.set _ _).set _ _).set _ _).set _ _, fun x e => ⟨(hTN x e).1, by have := (hTN x e).2; simpa [World.setCell] using this⟩, by have := hb.size; simpa [World.setCell] using this, ((((hk.set _ _).set _ _).set _ _).set _ _).under BC.out⟩
    case rest =>
      obtain ⟨a3, cap3, ⟨r0, r1, r2, r3⟩, hP, hPS, hT, hTS, hTN, hsz, hB⟩ := hcut
      have E1 := Lib.hid hP
      have E2 := Lib.hid hPS
      have E3 := Lib.hid hT
      have E4 := Lib.hid hTS
      have E5 := Lib.hid hTN
      have E6 := Lib.hid hB
      clear hP hPS hT hTS hTN hB
      go_wp2
      refine bodyPost_ret (v := .agg #[.string id, .int .i64 k, .slice ga ps.length cap2, .slice a3 ts.length cap3]) (by simp [results, Tryz.results62, go_sem, r0, r1, r2, r3]) rfl ?_
      exact ⟨_, rfl, _, cap2, a3, cap3, rfl, E1.out, E2.out, fun x e => ⟨by have := (HGA.out x e).1; omega, by have := (HGA.out x e).2; omega⟩, E3.out, E4.out, fun x e => ⟨by have := (E5.out x e).1; omega, (E5.out x e).2⟩, fun x e e' => by have h1 := (HGA.out x e).2; have h2 := (E5.out _ e').1; omega, E6.out⟩
end Go.Proofs.YtdfadpejddhbkaaGreat

namespace Go.Proofs.YtdfadpejddhbkaaGreat
set_option linter.unusedVariables false
open Go.ChangeShapes Go.WideShapes Go.ChangeAt Go.RowKit Go.Deep

/-- the blocks of a thing's parts -/
def inPart (p : Pl) (x : Nat) : Prop := blk p.1.1 = some x ∨ blk p.2.1 = some x

/-- a list that is being built -/
structure Built (w : World) (lo : Nat) (v : Value) (k : Nat) (fs : List Ft) (ad : Nat → Pl) : Prop where
  row : w.ownsRow lo 33 4 v k (flatF fs ad k)
  pts : ∀ i, i < k → PtsAt w (ad i).1.1 (fps fs i) ∧ Soft w (ad i).1.1 (fps fs i).length
  tags : ∀ i, i < k → TagsAt w (ad i).2.1 (fts fs i) ∧ Soft w (ad i).2.1 (fts fs i).length
  rng : ∀ i, i < k → ∀ x, inPart (ad i) x → lo ≤ x ∧ x < w.heap.size ∧ v.ownBlock ≠ some x
  two : ∀ i, i < k → Apart (ad i).1.1 (ad i).2.1
  far : ∀ i j, i < j → j < k → ∀ x, inPart (ad i) x → ¬ inPart (ad j) x

theorem built_none (w : World) (lo : Nat) (fs : List Ft) (ad : Nat → Pl) : Built w lo (.slice none 0 0) 0 fs ad :=
  ⟨World.ownsRow_nil _ _ _ _, fun _ h => absurd h (Nat.not_lt_zero _), fun _ h => absurd h (Nat.not_lt_zero _), fun _ h => absurd h (Nat.not_lt_zero _), fun _ h => absurd h (Nat.not_lt_zero _), fun _ _ _ h => absurd h (Nat.not_lt_zero _)⟩

theorem Built.below {w w' : World} {lo : Nat} {v : Value} {k : Nat} {fs : List Ft} {ad : Nat → Pl} (h : Built w lo v k fs ad) (hb : Below w.heap.size w w') : Built w' lo v k fs ad :=
  ⟨ownsRow_below h.row hb, fun i hi => ⟨(h.pts i hi).1.below hb, (h.pts i hi).2.below (h.pts i hi).1 hb⟩, fun i hi => ⟨(h.tags i hi).1.below hb, (h.tags i hi).2.belowT (h.tags i hi).1 hb⟩, fun i hi x hx => ⟨(h.rng i hi x hx).1, Nat.lt_of_lt_of_le (h.rng i hi x hx).2.1 hb.size, (h.rng i hi x hx).2.2⟩, h.two, h.far⟩

/-- one more thing, appended -/
theorem Built.step {wr w3 wb wa : World} {lo : Nat} {v : Value} {k : Nat} {fs : List Ft} {ad : Nat → Pl} {p : Pl} {gg cap' : Nat} (h : Built wr lo v k fs ad) (hlo : lo ≤ wr.heap.size) (hb : Below wr.heap.size wr w3) (h3 : Below w3.heap.size w3 wb) (hz : wb.heap.size = w3.heap.size + 1)
    (hp : PtsAt w3 p.1.1 (fps fs k)) (hps : Soft w3 p.1.1 (fps fs k).length) (hpf : Fresh wr w3 p.1.1) (ht : TagsAt w3 p.2.1 (fts fs k)) (hts : Soft w3 p.2.1 (fts fs k).length) (htf : Fresh wr w3 p.2.1) (hap : Apart p.1.1 p.2.1)
    (hrow : wa.ownsRow lo 33 4 (.slice (some ⟨gg, 0, none⟩) (k + 1) cap') (k + 1) (flatF fs ad k ++ cellsF (fg fs k) p)) (hg : wb.grownBy wa v.ownBlock) (hat : v.ownBlock = some gg ∨ gg = w3.heap.size + 1) :
    Built wa lo (.slice (some ⟨gg, 0, none⟩) (k + 1) cap') (k + 1) fs (plSet ad k p) := by
  have hbb : Below wr.heap.size wr wb := hb.trans (h3.mono hb.size)
  have hB := h.below hbb
  have hvl : ∀ x, v.ownBlock = some x → x < wr.heap.size := fun x hx => (h.row.lt x hx).2
  have ht' : Turned wb wa (fun x => v.ownBlock = some x) := Turned.of_grown hg fun x hx => hx
  have hwz := hg.size
  have hfr : ∀ x, inPart p x → wr.heap.size ≤ x ∧ x < w3.heap.size := fun x hx => hx.elim (hpf x) (htf x)
  have hs3 := hb.size
  have nv : ∀ x, inPart p x → ¬ v.ownBlock = some x := fun x hx e => by have h1 := (hfr x hx).1; have h2 := hvl x e; omega
  have gne : ∀ x, x < w3.heap.size → ¬ v.ownBlock = some x → gg ≠ x := fun x hx hn e => by
    rcases hat with h1 | h1
    · exact hn (by rw [h1, e])
    · omega
  have own' : ∀ x, (Value.slice (some ⟨gg, 0, none⟩) (k + 1) cap').ownBlock = some x → gg = x := fun x hx => by simpa [Value.ownBlock] using hx
  refine ⟨?_, fun i hi => ?_, fun i hi => ?_, fun i hi x hx => ?_, fun i hi => ?_, fun i j hij hj x hx hy => ?_⟩
  · rw [flatF_succ, flatF_set _ _ _ _ _ (Nat.le_refl _), plSet_at]
    exact hrow
  · by_cases e : i = k
    · subst e
      rw [plSet_at]
      have q := hp.below h3
      exact ⟨q.turned ht' fun x hx => nv x (.inl hx), (hps.below hp h3).turnedP q ht' fun x hx => nv x (.inl hx)⟩
    · rw [plSet_lt (by omega)]
      obtain ⟨q1, q2⟩ := hB.pts i (by omega)
      have n : ∀ x, blk (ad i).1.1 = some x → ¬ v.ownBlock = some x := fun x hx e => (h.rng i (by omega) x (.inl hx)).2.2 e
      exact ⟨q1.turned ht' n, q2.turnedP q1 ht' n⟩
  · by_cases e : i = k
    · subst e
      rw [plSet_at]
      have q := ht.below h3
      exact ⟨q.turned ht' fun x hx => nv x (.inr hx), (hts.belowT ht h3).turnedT q ht' fun x hx => nv x (.inr hx)⟩
    · rw [plSet_lt (by omega)]
      obtain ⟨q1, q2⟩ := hB.tags i (by omega)
      have n : ∀ x, blk (ad i).2.1 = some x → ¬ v.ownBlock = some x := fun x hx e => (h.rng i (by omega) x (.inr hx)).2.2 e
      exact ⟨q1.turned ht' n, q2.turnedT q1 ht' n⟩
  · by_cases e : i = k
    · subst e
      rw [plSet_at] at hx
      obtain ⟨q1, q2⟩ := hfr x hx
      exact ⟨by omega, by omega, fun e => gne x q2 (nv x hx) (own' x e)⟩
    · rw [plSet_lt (by omega)] at hx
      obtain ⟨q1, q2, q3⟩ := h.rng i (by omega) x hx
      exact ⟨q1, by omega, fun e => gne x (by omega) q3 (own' x e)⟩
  · by_cases e : i = k
    · subst e
      rw [plSet_at]
      exact hap
    · rw [plSet_lt (by omega)]
      exact h.two i (by omega)
  · rw [plSet_lt (by omega)] at hx
    by_cases e : j = k
    · subst e
      rw [plSet_at] at hy
      have h1 := (hfr x hy).1
      have h2 := (h.rng i (by omega) x hx).2.1
      omega
    · rw [plSet_lt (by omega)] at hy
      exact h.far i j hij (by omega) x hx hy

/-- a built list lies in memory of its own -/
theorem Built.lies {w : World} {lo b cap : Nat} {fs : List Ft} {ad : Nat → Pl} (h : Built w lo (.slice (some ⟨b, 0, none⟩) fs.length cap) fs.length fs ad) : Lies w b 0 fs ad ∧ Sep b fs.length ad ∧ (∀ x, blocksOf b fs.length ad x → lo ≤ x ∧ x < w.heap.size) := by
  obtain ⟨h1, ⟨h2, _⟩ | ⟨g, cap2, cur, e, hb, hg, hc, hm, hs, hx⟩⟩ := h.row
  · simp at h2
  · obtain ⟨rfl, rfl⟩ : b = g ∧ cap = cap2 := by simpa using e
    have hlt : b < w.heap.size := (Array.getElem?_eq_some_iff.1 hg).1
    have cell : ∀ j v, j < fs.length * 4 → (flatF fs ad fs.length)[j]? = some v → w.cell? ⟨b, 0 + j, none⟩ = some v := by
      intro j v hj hv
      rw [← hx, List.getElem?_take, if_pos hj] at hv
      simp only [World.cell?, hg, Option.isSome_none, Bool.false_eq_true, if_false, Nat.zero_add]
      simpa using hv
    refine ⟨⟨fun i hi => ?_, fun i hi => ?_, h.pts, h.tags, hlt⟩, ⟨fun i hi => ?_, h.two, fun i j hi hj hne => ?_⟩, ?_⟩
    · have f := fun o ho => flatF_at fs ad fs.length i o hi ho
      exact ⟨cell _ _ (by omega) (f 0 (by omega)), cell _ _ (by omega) (f 1 (by omega)), cell _ _ (by omega) (f 2 (by omega)), cell _ _ (by omega) (f 3 (by omega))⟩
    · constructor <;> simp [World.frozen?, hg]
    · exact ⟨fun e => (h.rng i hi b (.inl e)).2.2 rfl, fun e => (h.rng i hi b (.inr e)).2.2 rfl⟩
    · have key : ∀ x, inPart (ad i) x → ¬ inPart (ad j) x := by
        rcases Nat.lt_or_gt_of_ne hne with q | q
        · exact h.far i j q hj
        · exact fun x hx hy => h.far j i q hi x hy hx
      exact ⟨fun x hx hy => key x (.inl hx) (.inl hy), fun x hx hy => key x (.inl hx) (.inr hy), fun x hx hy => key x (.inr hx) (.inl hy), fun x hx hy => key x (.inr hx) (.inr hy)⟩
    · rintro x (rfl | ⟨i, hi, e⟩)
      · exact ⟨hb, hlt⟩
      · exact ⟨(h.rng i hi x e).1, (h.rng i hi x e).2.1⟩

end Go.Proofs.YtdfadpejddhbkaaGreat

namespace Go.Proofs.YtdfadpejddhbkaaGreat
set_option linter.unusedVariables false
open Go.ChangeShapes Go.WideShapes Go.ChangeAt Go.RowKit Go.Deep

set_option maxRecDepth 100000 in
set_option maxHeartbeats 4000000 in
theorem sheetCopy_any (a : Option Addr) (cap : Nat) (fs : List Ft) (w : World) (hp : FeatsAt w a fs) (hl : fs.length ≤ 1048576) (hL : FeatsLen fs 1048576) :
    Calls Tryz.prog 100 #[.slice a fs.length cap] w fun e w' => (∃ v ad, e = .returned v ∧ Built w' w.heap.size v fs.length fs ad) ∧ Below w.heap.size w w' := by
  obtain ⟨i0, hi, hz0, hz1, hz2⟩ := info_parts infoFeat
  have HI := Lib.hid hi
  have HZ0 := Lib.hid hz0
  have HZ1 := Lib.hid hz1
  have HZ2 := Lib.hid hz2
  have HP := Lib.hid hp
  have HL := Lib.hid hL
  clear hi hz0 hz1 hz2 hp hL
  go_enter Tryz.func100, Tryz.ntmps100
  go_wp2
  go_loopw [3, 5, 8] (fun s _ i wr => ∃ (k : Nat) (v : Value) (ad : Nat → Pl), k ≤ fs.length ∧ i = .int .i64 k ∧ v = s ∧ Built wr w.heap.size v k fs ad ∧ Below w.heap.size w wr) (fun _ _ i _ => fs.length - (intOf i).toNat)
  case atStart => exact ⟨0, _, fun _ => ((none, 0), (none, 0)), Nat.zero_le _, rfl, rfl, built_none _ _ _ _, Below.refl _ _⟩
  case round =>
    obtain ⟨k, v, ad, hk, rfl, rfl, hbu, hbel⟩ := hrel
    have hsz := hbel.size
    have HBu := Lib.hid hbu
    have HB := Lib.hid hbel
    by_cases hlt : k < fs.length
    · obtain ⟨g, off, pa, pc, ta, tc, rfl, hg, c0, c1, c2, c3, hpp, htt⟩ := HP.out k hlt
      rw [← hbel.cell (p := ⟨g, _, none⟩) hg] at c0 c1 c2 c3
      obtain ⟨l1, l2, l3, _⟩ := HL.out k hlt
      obtain ⟨W, hW⟩ : ∃ W, W = wr.alloc (.cells #[.string (fid fs k), .int .i64 (fkd fs k), .slice pa (fps fs k).length pc, .slice ta (fts fs k).length tc] 33) := ⟨_, rfl⟩
      have BA : Below wr.heap.size wr W := by rw [hW]; exact (Below.refl _ _).alloc (Nat.le_refl _) _
      have BW : Hid (Below w.heap.size w W) := HB.out.trans (BA.mono hsz)
      have D1 := Lib.hid (hpp.below BW.out)
      have D2 := Lib.hid (htt.below BW.out)
      have HBW := Lib.hid (HBu.out.below BA)
      have hvb : ∀ j, v.ownBlock = some j → w.heap.size ≤ j ∧ j < wr.heap.size := fun j hj => hbu.row.lt j hj
      have HV := Lib.hid hvb
      have hszW := BW.out.size
      have HW := Lib.hid hW
      have hza := BA.size
      clear hbu hbel hpp htt hvb BA hW
      go_wp2_with fail
      rw [← HW.out]
      refine (featCopy_any _ _ _ _ _ _ _ _ _ D1.out D2.out (by show (fps fs k).length ≤ _; omega) (by show (fts fs k).length ≤ _; omega)).mono ?_
      rintro e w3 ⟨v3, rfl, hg3⟩
      obtain ⟨qa, qc, sa, sc, rfl, q1, q2, q3, q4, q5, q6, q7, hb3⟩ := hg3
      have E1 := Lib.hid q1
      have E2 := Lib.hid q2
      have E3 := Lib.hid q3
      have E4 := Lib.hid q4
      have E5 := Lib.hid q5
      have E6 := Lib.hid q6
      have E7 := Lib.hid q7
      have B3 := Lib.hid hb3
      have R3 : Hid (w3.ownsRow w.heap.size 33 4 v k (flatF fs ad k)) := ownsRow_below HBW.out.row hb3
      have hz3 := hb3.size
      have A3 : Hid (∀ o, Below w3.heap.size w3 (w3.alloc o)) := fun o => (Below.refl _ _).alloc (Nat.le_refl _) _
      clear hb3 q1 q2 q3 q4 q5 q6 q7 c0 c1 c2 c3
      go_wp2_with (at_builtin; refine wpList_append_lies _ (by rfl) _ _ _ (by rfl) w.heap.size 33 i0 _ 4 72 Tryz.underlying23 HI.out HZ0.out HZ1.out HZ2.out rfl (by omega) v k (flatF fs ad k) (by rfl) (R3.out.alloc _) ⟨w3.heap.size, 0, none⟩ 1 1 (cellsF (fg fs k) ((qa, qc), (sa, sc))) (by rfl) (by rfl) (World.news_of_block (cs := #[.string (fg fs k).1, .int .i64 (fg fs k).2.1, .slice qa (fg fs k).2.2.1.length qc, .slice sa (fg fs k).2.2.2.length sc]) (t := 33) (fr := (0, 0)) (heap_alloc_new w3 _)) (by simp [Value.oneCell', cellsF]) (by omega) (by unfold maxLen; omega) (by omega) (by simp; omega) (w3.heap.size + 1) (by simp) ?_; intro gg cap' wa hown1 hgrow hat hlt')
      have HS : Hid (Built wa w.heap.size (.slice (some ⟨gg, 0, none⟩) (k + 1) cap') (k + 1) fs (plSet ad k ((qa, qc), (sa, sc)))) := HBW.out.step hszW B3.out (A3.out _) (by simp) E1.out E2.out E3.out E4.out E5.out E6.out E7.out hown1 hgrow hat
      have HG := Lib.hid hgrow
      clear hown1 hgrow hat
      go_roundw
      case rel => exact ⟨k + 1, _, _, by omega, by go_num, rfl, HS.out, (BW.out.trans ((B3.out.alloc (by omega) _).mono hszW)).grown HG.out (by simp; omega) (fun j hj => (HV.out j hj).1)⟩
      case measure => simp [intOf]; omega
    · obtain rfl : k = fs.length := by omega
      clear hbu hbel
      go_wp2
      go_ret
      exact ⟨⟨v, ad, rfl, HBu.out⟩, HB.out⟩
end Go.Proofs.YtdfadpejddhbkaaGreat

namespace Go.Proofs.YtdfadpejddhbkaaGreat
set_option linter.unusedVariables false
open Go.ChangeShapes Go.WideShapes Go.ChangeAt Go.RowKit

/-- a number of a row -/
def ix (is : List Int) (i : Nat) : Int := is.getD i 0

theorem ix_get {is : List Int} {i : Nat} (h : i < is.length) : ix is i = is[i] := by simp [ix, h]

/-- a slice that reads as numbers -/
def IntsAt (w : World) (a : Option Addr) (is : List Int) : Prop :=
  ∀ i, i < is.length → ∃ b off, a = some ⟨b, off, none⟩ ∧ b < w.heap.size ∧ w.cell? ⟨b, off + i, none⟩ = some (.int .i64 (ix is i))

theorem IntsAt.nil (w : World) (a : Option Addr) : IntsAt w a [] := fun _ h => absurd h (Nat.not_lt_zero _)

theorem IntsAt.below {w w' : World} {a : Option Addr} {is : List Int} (h : IntsAt w a is) (hb : Below w.heap.size w w') : IntsAt w' a is := by
  intro i hi
  obtain ⟨b, off, rfl, hlt, h1⟩ := h i hi
  exact ⟨b, off, rfl, Nat.lt_of_lt_of_le hlt hb.size, by rw [hb.cell (p := ⟨b, _, none⟩) hlt]; exact h1⟩

/-- two rows of numbers are one -/
def isEq (is js : List Int) : Bool := decide (is = js)

theorem isEq_of {is js : List Int} (hl : is.length = js.length) (h : ∀ j, j < is.length → ix is j = ix js j) : isEq is js = true := by
  unfold isEq
  rw [decide_eq_true_iff]
  refine List.ext_getElem hl fun i h1 h2 => ?_
  have := h i h1
  rwa [ix_get h1, ix_get h2] at this

theorem isEq_ne {is js : List Int} {j : Nat} (h : ¬ ix is j = ix js j) : isEq is js = false := by
  unfold isEq
  rw [decide_eq_false_iff_not]
  rintro rfl
  exact h rfl

theorem isEq_len {is js : List Int} (h : is.length ≠ js.length) : isEq is js = false := by
  unfold isEq
  rw [decide_eq_false_iff_not]
  rintro rfl
  exact h rfl

theorem infoInt : (Tryz.prog.info? 3).map (fun i => (i.zero, i.size, i.bytes)) = some (some (.int .i64 0), 1, 8) := by kernel_rfl

/-- a numbers' cell by its place -/
def intCell (is : List Int) (j : Nat) : Value := .int .i64 (ix is j)

/-- how far a row is filled -/
def filledI (is : List Int) (k j : Nat) : Value := if j < k then intCell is j else .int .i64 0

theorem filledI_step (is : List Int) (k j : Nat) :
    (if j = k then .int .i64 (ix is k) else filledI is k j) = filledI is (k + 1) j := by
  unfold filledI intCell
  by_cases h2 : j = k
  · subst h2
    rw [if_pos rfl, if_pos (by omega)]
  · rw [if_neg h2]
    by_cases h3 : j < k
    · rw [if_pos h3, if_pos (by omega)]
    · rw [if_neg h3, if_neg (by omega)]

theorem IntsAt.of_row {is : List Int} {w : World} {b : Nat} {t : TypeId} (h : w.rowIs b t is.length (intCell is)) : IntsAt w (some ⟨b, 0, none⟩) is := by
  intro i hi
  refine ⟨b, 0, rfl, h.lt, ?_⟩
  have := h.cell (i := i) hi
  rw [Nat.zero_add, this]
  rfl

/-- what 'toIntS' answers: a row of its own -/
def NewInts (w : World) (is : List Int) (e : Ending) (w' : World) : Prop :=
  ∃ b, e = .returned (.slice (some ⟨b, 0, none⟩) is.length is.length) ∧ w'.rowIs b 3 is.length (intCell is) ∧ w.heap.size ≤ b ∧ Below w.heap.size w w'

set_option maxHeartbeats 400000 in
theorem toIntS_any (a : Option Addr) (cap : Nat) (is : List Int) (w : World) (hp : IntsAt w a is) (hlen : is.length ≤ 1048576) :
    Calls Tryz.prog 174 #[.slice a is.length cap] w (NewInts w is) := by
  obtain ⟨i0, hi, hz0, hz1, hz2⟩ := info_parts infoInt
  have hmk : ∀ u : World, (Instr.makeSlice 49 (.int .i64 (is.length : Int)) (.int .i64 (is.length : Int))).run Tryz.prog u =
      .ok (.slice (some ⟨u.heap.size, 0, none⟩) is.length is.length) (u.alloc (.cells (madeCells #[.int .i64 0] is.length) 3)) := fun u => by
    have h := run_make (P := Tryz.prog) u 49 3 i0 (.int .i64 0) Tryz.underlying49 hi hz0 .i64 .i64 (is.length : Int) (is.length : Int) (by omega) (Int.le_refl _) (by rw [hz2]; omega) (by omega)
    simpa [hz1, Value.cells] using h
  have H0 := Lib.hid hp
  clear hp hz0 hz1 hz2 hi
  go_enter Tryz.func174, Tryz.ntmps174
  go_wp2
  clear hmk
  go_loopw [4] (fun i wr => ∃ k : Nat, k ≤ is.length ∧ i = .int .i64 k ∧ wr.rowIs w.heap.size 3 is.length (filledI is k) ∧ Below w.heap.size w wr) (fun i _ => is.length - (intOf i).toNat)
  case atStart =>
    refine ⟨0, Nat.zero_le _, rfl, (World.rowIs_made w _ is.length _).congr fun i _ => ?_, (Below.refl _ _).alloc (Nat.le_refl _) _⟩
    unfold filledI
    rw [if_neg (by omega)]
  case round =>
    obtain ⟨k, hk, rfl, hrow, hbel⟩ := hrel
    by_cases hlt : k < is.length
    · obtain ⟨b, off, rfl, hb, hc1⟩ := H0.out k hlt
      rw [← hbel.cell (p := ⟨b, _, none⟩) hb] at hc1
      have hf1 := hrow.frozen k
      have hd1 := hrow.cell (i := k) (by omega)
      have HR := Lib.hid hrow
      have HB := Lib.hid hbel
      clear hrow hbel
      have hsz := HB.out.size
      go_wp2
      go_roundw
      case rel =>
        refine ⟨k + 1, by omega, by go_num, (HR.out.set k _).congr fun j _ => filledI_step is k j, ?_⟩
        exact HB.out.setCell (Nat.le_refl _) _
      case measure => simp [intOf]; omega
    · have HR := Lib.hid hrow
      have HB := Lib.hid hbel
      clear hrow hbel
      go_wp2
      go_ret
      obtain rfl : k = is.length := by omega
      exact ⟨w.heap.size, rfl, HR.out.congr fun j hj => (by unfold filledI; rw [if_pos hj]), Nat.le_refl _, HB.out⟩

theorem szIntS_fits (a : Option Addr) (cap n : Nat) (left : Int) (w : World) (h0 : (n : Int) ≤ left) (h1 : left ≤ 1048576) :
    Calls Tryz.prog 169 #[.slice a n cap, .int .i64 left] w fun e w' => e = .returned (.int .i64 (left - n)) ∧ w = w' := by
  go_enter Tryz.func169, Tryz.ntmps169
  go_wp2
  go_ret
  exact ⟨rfl, rfl⟩

theorem szIntS_over (a : Option Addr) (cap n : Nat) (left : Int) (w : World) (h : 0 ≤ left) (h0 : left < (n : Int)) (h1 : left ≤ 1048576) (hn : n ≤ maxLen) :
    Calls Tryz.prog 169 #[.slice a n cap, .int .i64 left] w fun e w' => e = .returned (.int .i64 (-1)) ∧ w = w' := by
  unfold maxLen at hn
  go_enter Tryz.func169, Tryz.ntmps169
  go_wp2
  go_ret
  exact ⟨rfl, rfl⟩

set_option maxHeartbeats 400000 in
theorem eqIntS_any (a a' : Option Addr) (cap cap' : Nat) (is js : List Int) (w : World) (hp : IntsAt w a is) (hq : IntsAt w a' js) (hl : is.length ≤ 1048576) (hl' : js.length ≤ 1048576) :
    Calls Tryz.prog 180 #[.slice a is.length cap, .slice a' js.length cap'] w fun e w' => e = .returned (.bool (isEq is js)) ∧ ∃ n, w' = w.drewN n := by
  have HP := Lib.hid hp
  have HQ := Lib.hid hq
  clear hp hq
  by_cases he : is.length = js.length
  · have HE := Lib.hid he
    rw [← he]
    have h1 : ((is.length : Int) != (is.length : Int)) = false := by simp
    clear he
    go_enter Tryz.func180, Tryz.ntmps180
    go_wp2
    go_loopw [5] (fun i wr => ∃ k n : Nat, k ≤ is.length ∧ i = .int .i64 k ∧ wr = w.drewN n ∧ ∀ j, j < k → ix is j = ix js j) (fun i _ => is.length - (intOf i).toNat)
    case atStart => exact ⟨0, 0, Nat.zero_le _, rfl, rfl, fun j h => absurd h (Nat.not_lt_zero _)⟩
    case round =>
      obtain ⟨k, n, hk, rfl, rfl, hall⟩ := hrel
      have HA := Lib.hid hall
      clear hall
      by_cases hlt : k < is.length
      · obtain ⟨b, off, rfl, hb, hc1⟩ := HP.out k hlt
        obtain ⟨b', off', rfl, hb', hd1⟩ := HQ.out k (by have := HE.out; omega)
        by_cases hs : ix is k = ix js k
        · have hb1 : (ix is k != ix js k) = false := by simp [hs]
          have HS := Lib.hid hs
          clear hs
          go_wp2
          go_quiet (fail)
          go_wp2
          go_roundw
          case rel => exact ⟨k + 1, _, by omega, by go_num, rfl, fun j hj => by by_cases e : j = k; (subst e; exact HS.out); exact HA.out j (by omega)⟩
          case measure => simp [intOf]; omega
        · have hb1 : (ix is k != ix js k) = true := by simp [hs]
          have HS := Lib.hid (isEq_ne hs)
          clear hs
          go_wp2
          go_quiet (fail)
          go_wp2
          go_ret
          exact ⟨by rw [HS.out]; rfl, n + nq, by rw [World.drewN_drewN]⟩
      · obtain rfl : k = is.length := by omega
        have HT := Lib.hid (isEq_of HE.out HA.out)
        go_wp2
        go_ret
        exact ⟨by rw [HT.out]; rfl, n, rfl⟩
  · have h1 : ((is.length : Int) != (js.length : Int)) = true := by simp; omega
    have HT := Lib.hid (isEq_len he)
    clear he
    go_enter Tryz.func180, Tryz.ntmps180
    go_wp2
    go_ret
    exact ⟨by rw [HT.out]; rfl, 0, rfl⟩

set_option maxHeartbeats 400000 in
theorem l7Ints_any (a a' : Option Addr) (cap cap' : Nat) (is js : List Int) (w : World) (hp : IntsAt w a is) (hq : IntsAt w a' js) (hl : is.length ≤ 1048576) (hl' : js.length ≤ 1048576) :
    Calls Tryz.prog 168 #[.slice a is.length cap, .slice a' js.length cap'] w fun e w' => e = .returned (.bool (isEq is js)) ∧ ∃ n, w' = w.drewN n := by
  have HP := Lib.hid hp
  have HQ := Lib.hid hq
  clear hp hq
  by_cases he : is.length = js.length
  · have HE := Lib.hid he
    rw [← he]
    have h1 : ((is.length : Int) != (is.length : Int)) = false := by simp
    clear he
    go_enter Tryz.func168, Tryz.ntmps168
    go_wp2
    go_loopw [5] (fun i wr => ∃ k n : Nat, k ≤ is.length ∧ i = .int .i64 k ∧ wr = w.drewN n ∧ ∀ j, j < k → ix is j = ix js j) (fun i _ => is.length - (intOf i).toNat)
    case atStart => exact ⟨0, 0, Nat.zero_le _, rfl, rfl, fun j h => absurd h (Nat.not_lt_zero _)⟩
    case round =>
      obtain ⟨k, n, hk, rfl, rfl, hall⟩ := hrel
      have HA := Lib.hid hall
      clear hall
      by_cases hlt : k < is.length
      · obtain ⟨b, off, rfl, hb, hc1⟩ := HP.out k hlt
        obtain ⟨b', off', rfl, hb', hd1⟩ := HQ.out k (by have := HE.out; omega)
        by_cases hs : ix is k = ix js k
        · have hb1 : (ix is k != ix js k) = false := by simp [hs]
          have HS := Lib.hid hs
          clear hs
          go_wp2
          go_quiet (fail)
          go_wp2
          go_roundw
          case rel => exact ⟨k + 1, _, by omega, by go_num, rfl, fun j hj => by by_cases e : j = k; (subst e; exact HS.out); exact HA.out j (by omega)⟩
          case measure => simp [intOf]; omega
        · have hb1 : (ix is k != ix js k) = true := by simp [hs]
          have HS := Lib.hid (isEq_ne hs)
          clear hs
          go_wp2
          go_quiet (fail)
          go_wp2
          go_ret
          exact ⟨by rw [HS.out]; rfl, n + nq, by rw [World.drewN_drewN]⟩
      · obtain rfl : k = is.length := by omega
        have HT := Lib.hid (isEq_of HE.out HA.out)
        go_wp2
        go_ret
        exact ⟨by rw [HT.out]; rfl, n, rfl⟩
  · have h1 : ((is.length : Int) != (js.length : Int)) = true := by simp; omega
    have HT := Lib.hid (isEq_len he)
    clear he
    go_enter Tryz.func168, Tryz.ntmps168
    go_wp2
    go_ret
    exact ⟨by rw [HT.out]; rfl, 0, rfl⟩

set_option maxHeartbeats 400000 in
theorem slicesEqualI_any (a a' : Option Addr) (cap cap' : Nat) (is js : List Int) (w : World) (hp : IntsAt w a is) (hq : IntsAt w a' js) (hl : is.length ≤ 1048576) (hl' : js.length ≤ 1048576) :
    Calls Tryz.prog 198 #[.slice a is.length cap, .slice a' js.length cap'] w fun e w' => e = .returned (.bool (isEq is js)) ∧ ∃ n, w' = w.drewN n := by
  have HP := Lib.hid hp
  have HQ := Lib.hid hq
  clear hp hq
  by_cases he : is.length = js.length
  · have HE := Lib.hid he
    rw [← he]
    have h1 : ((is.length : Int) != (is.length : Int)) = false := by simp
    clear he
    go_enter Tryz.func198, Tryz.ntmps198
    go_wp2
    go_loopw [5, 13] (fun _ i wr => ∃ k n : Nat, k ≤ is.length ∧ i = .int .i64 k ∧ wr = w.drewN n ∧ ∀ j, j < k → ix is j = ix js j) (fun _ i _ => is.length - (intOf i).toNat)
    case atStart => exact ⟨0, 0, Nat.zero_le _, rfl, rfl, fun j h => absurd h (Nat.not_lt_zero _)⟩
    case round =>
      obtain ⟨k, n, hk, rfl, rfl, hall⟩ := hrel
      have HA := Lib.hid hall
      clear hall
      by_cases hlt : k < is.length
      · obtain ⟨b, off, rfl, hb, hc1⟩ := HP.out k hlt
        obtain ⟨b', off', rfl, hb', hd1⟩ := HQ.out k (by have := HE.out; omega)
        by_cases hs : ix is k = ix js k
        · have hb1 : (ix is k != ix js k) = false := by simp [hs]
          have HS := Lib.hid hs
          clear hs
          go_wp2
          go_quiet (fail)
          go_wp2
          go_roundw
          case rel => exact ⟨k + 1, _, by omega, by go_num, rfl, fun j hj => by by_cases e : j = k; (subst e; exact HS.out); exact HA.out j (by omega)⟩
          case measure => simp [intOf]; omega
        · have hb1 : (ix is k != ix js k) = true := by simp [hs]
          have HS := Lib.hid (isEq_ne hs)
          clear hs
          go_wp2
          go_quiet (fail)
          go_wp2
          go_ret
          exact ⟨by rw [HS.out]; rfl, n + nq, by rw [World.drewN_drewN]⟩
      · obtain rfl : k = is.length := by omega
        have HT := Lib.hid (isEq_of HE.out HA.out)
        go_wp2
        go_ret
        exact ⟨by rw [HT.out]; rfl, n, rfl⟩
  · have h1 : ((is.length : Int) != (js.length : Int)) = true := by simp; omega
    have HT := Lib.hid (isEq_len he)
    clear he
    go_enter Tryz.func198, Tryz.ntmps198
    go_wp2
    go_ret
    exact ⟨by rw [HT.out]; rfl, 0, rfl⟩

end Go.Proofs.YtdfadpejddhbkaaGreat
