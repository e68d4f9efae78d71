/- Proved here: appending nothing to an empty row leaves it; the model's copy of a shape, with points or without; at most 1,048,576 points. Proved here: the library's copy of a list of points and of a list of tags, with any number of them, lies in memory of its own; at most 1,048,576 of them. Proved here: a list of things whose parts lie apart is marked thing by thing, each part with marks of its own, and nothing else is turned; lists of at most 1,048,576 things, points and tags. Proved here: the program's copy of a thing lies in memory of its own; at most 1,048,576 points and tags. Proved here: the model's copy of a thing ends whatever its lists hold, and holds the same points; at most 1,048,576 points and tags. Laid here: the numbers and facts of this program at which the contracts of slices.Sorted and maps.Keys are taken; no condition. Proved here: the keys of a map of things, told in order: maps.Keys and slices.Sorted by their contracts; a map of at most 2 ^ 40 keys. Proved here: what a map of things tells in the order of its keys is one list alone, and what putting and cutting do to it; no condition. Proved here: things put into a map by their names, and the names of such a map in order; at most 1,048,576 things. -/
import Derived.Test.YtdfadpejddhbkaaGreatWCopyF
import Derived.Test.YtdfadpejddhbkaaGreatWMarkFeat
import Derived.Test.YtdfadpejddhbkaaGreatH2
import Derived.Test.YtdfadpejddhbkaaGreatH1
import Derived.Test.YtdfadpejddhbkaaGreatWBack
import Derived.Deep.RegionHeld3
import Derived.Deep.DeepCutAuto
import Derived.Shelf.SlIter.Nil
import Derived.Shelf.SortM.Plain
import Derived.Shelf.SortM.SortNone
import Derived.Test.YtdfadpejddhbkaaGreatRows
import Derived.Test.YtdfadpejddhbkaaGreatWTagEq
import Derived.Maps.OwnSet
import Derived.Test.YtdfadpejddhbkaaGreatWTells
import Derived.Sort.KeysCollected
import Derived.Maps.Views
import Derived.Sort.Walk0
import Derived.Test.YtdfadpejddhbkaaGreatWInOrder
namespace Go.Proofs.YtdfadpejddhbkaaGreat
set_option linter.unusedVariables false
open Go.ChangeShapes Go.WideShapes Go.ChangeAt Go.RowKit Go.Deep

theorem run_append0 {P : Program} (w : World) (t ty e : TypeId) (i : TypeInfo) (ht : P.underlying t = some (.slice e)) (hi : P.info? e = some i) (g c : Nat) (a : Option Addr) :
    (Builtin.append_ #[t, t] ty #[.slice (some ⟨g, 0, none⟩) 0 0, .slice a 0 c]).run P w = .ok (.slice (some ⟨g, 0, none⟩) 0 0) w := by
  cases a with
  | none => simp [Builtin.append_, run_underlying ht, sizeOf, typeInfo, hi, Builtin.lenOf, Builtin.firstCells, loadCells, loadCellsFrom, storeCells]
  | some x => simp [Builtin.append_, run_underlying ht, sizeOf, typeInfo, hi, Builtin.lenOf, Builtin.firstCells, loadCells, loadCellsFrom, storeCells]

/-- at a step of a region that draws its order -/
theorem step_append0 {P : Program} (w : World) {ops : Array Oper} {o : Oper} {a : Act} {K : Act → World → Prop} {Q : Exit → Act → World → Prop} {E : Prop} (hgd : o.guard = none) (s x : Operand) (t : TypeId)
    (ho : o.op = .call { callee := .builtin .append, args := #[s, x], argTypes := #[t, t] }) (e : TypeId) (i : TypeInfo) (ht : P.underlying t = some (.slice e)) (hi : P.info? e = some i)
    (g c : Nat) (ad : Option Addr) (hs : a.eval s = .slice (some ⟨g, 0, none⟩) 0 0) (hx : a.eval x = .slice ad 0 c)
    (h : K (a.put o.dst (.slice (some ⟨g, 0, none⟩) 0 0)) w) : if Region.wanted o (yielded ops a.tmps) = true then Oper.wp P o a w K Q else E := by
  have hw : Region.wanted o (yielded ops a.tmps) = true := by simp [Region.wanted, hgd]
  rw [if_pos hw]
  have hr := run_append0 (P := P) w t o.type e i ht hi g c ad
  unfold Oper.wp execOp
  simp only [ho, resolve, invoke, builtin, Sem.run_bind, Sem.run_pure, Result.andThen_ok, List.map_toArray, List.map_cons, List.map_nil, hs, hx, hr]
  exact h

set_option maxHeartbeats 2000000 in
theorem l1Copy_nil (k : Int) (a : Option Addr) (cap : Nat) (w : World) :
    Calls Tryz.prog 117 #[.agg #[.int .i64 k, .slice a 0 cap]] w fun e w' => ∃ g, e = .returned (.agg #[.int .i64 k, .slice (some ⟨g, 0, none⟩) 0 0]) ∧ Below w.heap.size w w' := by
  obtain ⟨i0, hi, hz0, hz1, hz2⟩ := info_parts infoPt
  have HI := Lib.hid hi
  clear hi hz0 hz1 hz2
  go_enter Tryz.func117, Tryz.ntmps117
  go_wp2
  go_region_law (refine step_append0 _ (by rfl) _ _ _ (by rfl) 148 i0 Tryz.underlying28 HI.out _ _ _ (by rfl) (by rfl) ?_)
  all_goals go_wp2
  all_goals refine bodyPost_ret (v := .agg #[.int .i64 k, .slice (some ⟨w.heap.size + 1 + 1, 0, none⟩) 0 0]) (by simp [results, Tryz.results117, go_sem]) rfl ⟨_, rfl, ?_⟩
  all_goals exact ((((Below.refl _ _).alloc (Nat.le_refl _) _).alloc (by simp) _).alloc (by simp; omega) _).drew
end Go.Proofs.YtdfadpejddhbkaaGreat

namespace Go.Proofs.YtdfadpejddhbkaaGreat
set_option linter.unusedVariables false
open Go.ChangeShapes Go.WideShapes Go.ChangeAt Go.RowKit Go.Deep

theorem wpList_append0 {P : Program} {w : World} {ops : Array Oper} {rest : List Oper} {o : Oper} {a : Act} {Q : Exit → Act → World → Prop} (hgd : o.guard = none) (s x : Operand) (t : TypeId)
    (ho : o.op = .call { callee := .builtin .append, args := #[s, x], argTypes := #[t, t] }) (e : TypeId) (i : TypeInfo) (ht : P.underlying t = some (.slice e)) (hi : P.info? e = some i)
    (g c : Nat) (ad : Option Addr) (hs : a.eval s = .slice (some ⟨g, 0, none⟩) 0 0) (hx : a.eval x = .slice ad 0 c)
    (h : wpList P ops Q rest (a.put o.dst (.slice (some ⟨g, 0, none⟩) 0 0)) w) : wpList P ops Q (o :: rest) a w :=
  wpList_plain hgd fun _ hK => by
    have hr := run_append0 (P := P) w t o.type e i ht hi g c ad
    unfold Oper.wp execOp
    simp only [ho, resolve, invoke, builtin, Sem.run_bind, Sem.run_pure, Result.andThen_ok, List.map_toArray, List.map_cons, List.map_nil, hs, hx, hr]
    exact hK _ _ h


/-- what a copy of points answers -/
def CloneP (w : World) (xs : List (Int × Int)) (e : Ending) (w' : World) : Prop :=
  ∃ g c, e = .returned (.slice g xs.length c) ∧ PtsAt w' g xs ∧ Soft w' g xs.length ∧ Fresh w w' g ∧ Below w.heap.size w w'

set_option maxRecDepth 100000 in
set_option maxHeartbeats 2000000 in
theorem cloneP_any (a : Option Addr) (cap : Nat) (xs : List (Int × Int)) (w : World) (hp : PtsAt w a xs) (hl : xs.length ≤ 1048576) :
    Calls Tryz.prog 115 #[.slice a xs.length cap] w (CloneP w xs) := by
  have HP := Lib.hid hp
  clear hp
  obtain ⟨i0, hi, hz0, hz1, hz2⟩ := info_parts infoPt
  have HI := Lib.hid hi
  have HZ0 := Lib.hid hz0
  have HZ1 := Lib.hid hz1
  have HZ2 := Lib.hid hz2
  clear hi hz0 hz1 hz2
  have heq := fun w => Lib.run_eql_slice_nil (P := Tryz.prog) w 28 148 a xs.length cap 0 0 Tryz.underlying28
  by_cases h0 : 0 < xs.length
  · obtain ⟨b, off, rfl, _⟩ := HP.out 0 h0
    go_enter Tryz.func115, Tryz.ntmps115
    go_wp2_with (at_builtin; refine wpList_append_lies _ (by rfl) _ _ _ (by rfl) w.heap.size 148 i0 _ 2 16 Tryz.underlying28 HI.out HZ0.out HZ1.out HZ2.out rfl (by omega) (.slice (some ⟨w.heap.size, 0, none⟩) 0 0) 0 [] (by rfl) (World.ownsRow_made w #[] 0 (Nat.le_refl _) (by unfold maxLen; omega) rfl) ⟨b, off, none⟩ xs.length cap (flat xs) (by rfl) (flat_len xs) (news_pts (HP.out.below ((Below.refl _ _).alloc (Nat.le_refl _) _))) (flat_one xs) h0 (by unfold maxLen; omega) (by omega) (by simp) (w.heap.size + 1) (by simp) ?_; intro gg cap' wa hown1 hgrow hat hlt')
    go_ret
    rw [Nat.zero_add, List.nil_append] at hown1
    obtain ⟨a2, cap2, e2, hpt, hso, hnew⟩ := owned_pts hown1 rfl
    obtain ⟨rfl, rfl⟩ : some ⟨gg, 0, none⟩ = a2 ∧ cap' = cap2 := by simpa using e2
    refine ⟨_, cap', rfl, hpt, hso, fun x hx => ⟨(hnew x hx).1, (hnew x hx).2⟩, ((Below.refl _ _).alloc (Nat.le_refl _) _).grown hgrow (by simp) (fun j e => by simp [Value.ownBlock] at e; omega)⟩
  · obtain rfl : xs = [] := List.eq_nil_of_length_eq_zero (by omega)
    clear h0 hl HP HZ0 HZ1 HZ2
    rw [show ([] : List (Int × Int)).length = 0 from rfl] at *
    cases a with
    | none =>
      go_enter Tryz.func115, Tryz.ntmps115
      go_wp2
      go_ret
      exact ⟨none, 0, rfl, PtsAt.nil _ _, fun i hi => absurd hi (Nat.not_lt_zero _), fun x hx => by simp [blk] at hx, Below.refl _ _⟩
    | some ad =>
      go_enter Tryz.func115, Tryz.ntmps115
      go_wp2_with (at_builtin; refine wpList_append0 (by rfl) _ _ _ (by rfl) 148 i0 Tryz.underlying28 HI.out w.heap.size cap (some ad) (by rfl) (by rfl) ?_)
      go_ret
      refine ⟨some ⟨w.heap.size, 0, none⟩, 0, rfl, PtsAt.nil _ _, fun i hi => absurd hi (Nat.not_lt_zero _), fun x hx => ?_, (Below.refl _ _).alloc (Nat.le_refl _) _⟩
      obtain rfl : w.heap.size = x := by simpa [blk] using hx
      exact ⟨Nat.le_refl _, by simp⟩

/-- what a copy of tags answers -/
def CloneT (w : World) (xs : List Tg) (e : Ending) (w' : World) : Prop :=
  ∃ g c, e = .returned (.slice g xs.length c) ∧ TagsAt w' g xs ∧ Soft w' g xs.length ∧ Fresh w w' g ∧ Below w.heap.size w w'

set_option maxRecDepth 100000 in
set_option maxHeartbeats 2000000 in
theorem cloneT_any (a : Option Addr) (cap : Nat) (xs : List Tg) (w : World) (hp : TagsAt w a xs) (hl : xs.length ≤ 1048576) :
    Calls Tryz.prog 116 #[.slice a xs.length cap] w (CloneT w xs) := by
  have HP := Lib.hid hp
  clear hp
  obtain ⟨i0, hi, hz0, hz1, hz2⟩ := info_parts infoT
  have HI := Lib.hid hi
  have HZ0 := Lib.hid hz0
  have HZ1 := Lib.hid hz1
  have HZ2 := Lib.hid hz2
  clear hi hz0 hz1 hz2
  have heq := fun w => Lib.run_eql_slice_nil (P := Tryz.prog) w 31 92 a xs.length cap 0 0 Tryz.underlying31
  by_cases h0 : 0 < xs.length
  · obtain ⟨b, off, rfl, _⟩ := HP.out 0 h0
    go_enter Tryz.func116, Tryz.ntmps116
    go_wp2_with (at_builtin; refine wpList_append_lies _ (by rfl) _ _ _ (by rfl) w.heap.size 92 i0 _ 2 32 Tryz.underlying31 HI.out HZ0.out HZ1.out HZ2.out rfl (by omega) (.slice (some ⟨w.heap.size, 0, none⟩) 0 0) 0 [] (by rfl) (World.ownsRow_made w #[] 0 (Nat.le_refl _) (by unfold maxLen; omega) rfl) ⟨b, off, none⟩ xs.length cap (flatT xs) (by rfl) (flatT_len xs) (news_tags (HP.out.below ((Below.refl _ _).alloc (Nat.le_refl _) _))) (flatT_one xs) h0 (by unfold maxLen; omega) (by omega) (by simp) (w.heap.size + 1) (by simp) ?_; intro gg cap' wa hown1 hgrow hat hlt')
    go_ret
    rw [Nat.zero_add, List.nil_append] at hown1
    obtain ⟨a2, cap2, e2, hpt, hso, hnew⟩ := owned_tags hown1 rfl
    obtain ⟨rfl, rfl⟩ : some ⟨gg, 0, none⟩ = a2 ∧ cap' = cap2 := by simpa using e2
    refine ⟨_, cap', rfl, hpt, hso, fun x hx => ⟨(hnew x hx).1, (hnew x hx).2⟩, ((Below.refl _ _).alloc (Nat.le_refl _) _).grown hgrow (by simp) (fun j e => by simp [Value.ownBlock] at e; omega)⟩
  · obtain rfl : xs = [] := List.eq_nil_of_length_eq_zero (by omega)
    clear h0 hl HP HZ0 HZ1 HZ2
    rw [show ([] : List Tg).length = 0 from rfl] at *
    cases a with
    | none =>
      go_enter Tryz.func116, Tryz.ntmps116
      go_wp2
      go_ret
      exact ⟨none, 0, rfl, TagsAt.nil _ _, fun i hi => absurd hi (Nat.not_lt_zero _), fun x hx => by simp [blk] at hx, Below.refl _ _⟩
    | some ad =>
      go_enter Tryz.func116, Tryz.ntmps116
      go_wp2_with (at_builtin; refine wpList_append0 (by rfl) _ _ _ (by rfl) 92 i0 Tryz.underlying31 HI.out w.heap.size cap (some ad) (by rfl) (by rfl) ?_)
      go_ret
      refine ⟨some ⟨w.heap.size, 0, none⟩, 0, rfl, TagsAt.nil _ _, fun i hi => absurd hi (Nat.not_lt_zero _), fun x hx => ?_, (Below.refl _ _).alloc (Nat.le_refl _) _⟩
      obtain rfl : w.heap.size = x := by simpa [blk] using hx
      exact ⟨Nat.le_refl _, by simp⟩
end Go.Proofs.YtdfadpejddhbkaaGreat

namespace Go.Proofs.YtdfadpejddhbkaaGreat
set_option linter.unusedVariables false
open Go.ChangeShapes Go.WideShapes Go.ChangeAt Go.RowKit

theorem Soft.turnedP {w w' : World} {a : Option Addr} {ps : List (Int × Int)} {S : Nat → Prop} (h : Soft w a ps.length) (hp : PtsAt w a ps) (ht : Turned w w' S) (hn : ∀ x, blk a = some x → ¬ S x) : Soft w' a ps.length := by
  intro i hi b off e
  obtain ⟨b', off', e', hlt, _⟩ := hp i hi
  obtain ⟨rfl, rfl⟩ : b = b' ∧ off = off' := by rw [e] at e'; simpa using e'
  have := h i hi b off e
  rw [ht.frozen (a := ⟨b, _, none⟩) hlt (hn b (by rw [e]; rfl)), ht.frozen (a := ⟨b, _, none⟩) hlt (hn b (by rw [e]; rfl))]
  exact this
theorem Soft.turnedT {w w' : World} {a : Option Addr} {ts : List Tg} {S : Nat → Prop} (h : Soft w a ts.length) (hp : TagsAt w a ts) (ht : Turned w w' S) (hn : ∀ x, blk a = some x → ¬ S x) : Soft w' a ts.length := by
  intro i hi b off e
  obtain ⟨b', off', e', hlt, _⟩ := hp i hi
  obtain ⟨rfl, rfl⟩ : b = b' ∧ off = off' := by rw [e] at e'; simpa using e'
  have := h i hi b off e
  rw [ht.frozen (a := ⟨b, _, none⟩) hlt (hn b (by rw [e]; rfl)), ht.frozen (a := ⟨b, _, none⟩) hlt (hn b (by rw [e]; rfl))]
  exact this

/-- things that lie in memory of their own -/
structure Lies (w : World) (b off : Nat) (fs : List Ft) (ad : Nat → Pl) : Prop where
  cell : ∀ i, i < fs.length → w.cell? ⟨b, off + i * 4, none⟩ = some (.string (fid fs i)) ∧ w.cell? ⟨b, off + i * 4 + 1, none⟩ = some (.int .i64 (fkd fs i)) ∧
    w.cell? ⟨b, off + i * 4 + 2, none⟩ = some (.slice (ad i).1.1 (fps fs i).length (ad i).1.2) ∧ w.cell? ⟨b, off + i * 4 + 3, none⟩ = some (.slice (ad i).2.1 (fts fs i).length (ad i).2.2)
  soft : ∀ i, i < fs.length → w.frozen? ⟨b, off + i * 4, none⟩ = false ∧ w.frozen? ⟨b, off + i * 4 + 1, none⟩ = false
  pts : ∀ i, i < fs.length → PtsAt w (ad i).1.1 (fps fs i) ∧ Soft w (ad i).1.1 (fps fs i).length
  tags : ∀ i, i < fs.length → TagsAt w (ad i).2.1 (fts fs i) ∧ Soft w (ad i).2.1 (fts fs i).length
  lt : b < w.heap.size

/-- the parts lie apart -/
structure Sep (b n : Nat) (ad : Nat → Pl) : Prop where
  own : ∀ i, i < n → blk (ad i).1.1 ≠ some b ∧ blk (ad i).2.1 ≠ some b
  two : ∀ i, i < n → Apart (ad i).1.1 (ad i).2.1
  far : ∀ i j, i < n → j < n → i ≠ j → Apart (ad i).1.1 (ad j).1.1 ∧ Apart (ad i).1.1 (ad j).2.1 ∧ Apart (ad i).2.1 (ad j).1.1 ∧ Apart (ad i).2.1 (ad j).2.1

/-- the blocks of a list -/
def blocksOf (b n : Nat) (ad : Nat → Pl) (x : Nat) : Prop := x = b ∨ ∃ i, i < n ∧ (blk (ad i).1.1 = some x ∨ blk (ad i).2.1 = some x)

theorem Lies.reads {w : World} {b off : Nat} {fs : List Ft} {ad : Nat → Pl} (h : Lies w b off fs ad) : FeatsAt w (some ⟨b, off, none⟩) fs := fun i hi =>
  ⟨b, off, _, _, _, _, rfl, h.lt, (h.cell i hi).1, (h.cell i hi).2.1, (h.cell i hi).2.2.1, (h.cell i hi).2.2.2, (h.pts i hi).1, (h.tags i hi).1⟩

theorem Lies.turned {w w' : World} {b off : Nat} {fs : List Ft} {ad : Nat → Pl} {S : Nat → Prop} (h : Lies w b off fs ad) (ht : Turned w w' S) (hn : ∀ x, blocksOf b fs.length ad x → ¬ S x) : Lies w' b off fs ad :=
  ⟨fun i hi => ⟨ht.cell (h.cell i hi).1 (hn _ (.inl rfl)), ht.cell (h.cell i hi).2.1 (hn _ (.inl rfl)), ht.cell (h.cell i hi).2.2.1 (hn _ (.inl rfl)), ht.cell (h.cell i hi).2.2.2 (hn _ (.inl rfl))⟩,
   fun i hi => ⟨(ht.frozen (a := ⟨b, _, none⟩) h.lt (hn _ (.inl rfl))).trans (h.soft i hi).1, (ht.frozen (a := ⟨b, _, none⟩) h.lt (hn _ (.inl rfl))).trans (h.soft i hi).2⟩,
   fun i hi => ⟨(h.pts i hi).1.turned ht fun x hx => hn x (.inr ⟨i, hi, .inl hx⟩), (h.pts i hi).2.turnedP (h.pts i hi).1 ht fun x hx => hn x (.inr ⟨i, hi, .inl hx⟩)⟩,
   fun i hi => ⟨(h.tags i hi).1.turned ht fun x hx => hn x (.inr ⟨i, hi, .inr hx⟩), (h.tags i hi).2.turnedT (h.tags i hi).1 ht fun x hx => hn x (.inr ⟨i, hi, .inr hx⟩)⟩,
   Nat.lt_of_lt_of_le h.lt ht.size⟩

theorem Lies.below {w w' : World} {b off : Nat} {fs : List Ft} {ad : Nat → Pl} (h : Lies w b off fs ad) (hb : Below w.heap.size w w') : Lies w' b off fs ad :=
  h.turned (S := fun _ => False) (Turned.of_below hb) fun _ _ h => h

/-- the number of the first mark of a thing -/
def lmk (fs : List Ft) (k : Int) : Nat → Int
  | 0 => k
  | i + 1 => lmk fs k i + 2 + 2 * ((fps fs i).length : Int) + 2 * ((fts fs i).length : Int)
/-- a thing's marks -/
def lmkF (fs : List Ft) (k : Int) (i : Nat) : Ft := (markT (lmk fs k i), lmk fs k i + 1, marks (lmk fs k i + 2) (fps fs i).length, marksT (lmk fs k i + 2 + 2 * ((fps fs i).length : Int)) (fts fs i).length)
/-- the things, the first ones marked -/
def lmkTo (fs : List Ft) (k : Int) (j : Nat) : List Ft := (List.range fs.length).map fun i => if i < j then lmkF fs k i else fg fs i

theorem lmkTo_len (fs : List Ft) (k : Int) (j : Nat) : (lmkTo fs k j).length = fs.length := by simp [lmkTo]
theorem lmkTo_at {fs : List Ft} (k : Int) (j : Nat) {i : Nat} (h : i < fs.length) : fg (lmkTo fs k j) i = if i < j then lmkF fs k i else fg fs i := by simp [fg, lmkTo, h]
theorem lmkTo_zero (fs : List Ft) (k : Int) : lmkTo fs k 0 = fs := by
  refine List.ext_getElem (lmkTo_len _ _ _) fun i h1 h2 => ?_
  rw [← fg_get h1, ← fg_get h2, lmkTo_at k 0 h2, if_neg (by omega)]
theorem lmkTo_pl {fs : List Ft} (k : Int) (j : Nat) {i : Nat} (h : i < fs.length) : (fps (lmkTo fs k j) i).length = (fps fs i).length ∧ (fts (lmkTo fs k j) i).length = (fts fs i).length := by
  unfold fps fts
  rw [lmkTo_at k j h]
  split
  · exact ⟨marks_len _ _, marksT_len _ _⟩
  · exact ⟨rfl, rfl⟩

theorem lmk_le {fs : List Ft} {k : Int} (h0 : 0 ≤ k) (h4 : k ≤ 1000000000000000) (hL : FeatsLen fs 1048576) : ∀ i, i ≤ fs.length → 0 ≤ lmk fs k i ∧ lmk fs k i ≤ k + i * 4194306
  | 0, _ => ⟨h0, by show k ≤ _; omega⟩
  | i + 1, hi => by
    obtain ⟨h1, h2⟩ := lmk_le h0 h4 hL i (by omega)
    obtain ⟨_, h3, h5, _⟩ := hL i (by omega)
    show 0 ≤ lmk fs k i + 2 + 2 * ((fps fs i).length : Int) + 2 * ((fts fs i).length : Int) ∧ lmk fs k i + 2 + 2 * ((fps fs i).length : Int) + 2 * ((fts fs i).length : Int) ≤ _
    omega

/-- one thing marked -/
theorem Lies.step {w1 w3 w4 w5 : World} {b off : Nat} {fs : List Ft} {ad : Nat → Pl} {k : Int} {j : Nat} (hj : j < fs.length) (h : Lies w1 b off (lmkTo fs k j) ad) (hs : Sep b fs.length ad)
    (h3 : w3 = (w1.setCell ⟨b, off + j * 4, none⟩ (.string (markT (lmk fs k j)))).setCell ⟨b, off + j * 4 + 1, none⟩ (.int .i64 (lmk fs k j + 1)))
    (hp : PtsAt w4 (ad j).1.1 (marks (lmk fs k j + 2) (fps fs j).length)) (hps : Soft w4 (ad j).1.1 (fps fs j).length) (hg : w3.grownBy w4 (blk (ad j).1.1))
    (ht : TagsAt w5 (ad j).2.1 (marksT (lmk fs k j + 2 + 2 * ((fps fs j).length : Int)) (fts fs j).length)) (hts : Soft w5 (ad j).2.1 (fts fs j).length) (hg' : w4.grownBy w5 (blk (ad j).2.1)) :
    Lies w5 b off (lmkTo fs k (j + 1)) ad := by
  have t4 : Turned w3 w4 (fun x => blk (ad j).1.1 = some x) := Turned.of_grown hg fun x hx => hx
  have t5 : Turned w4 w5 (fun x => blk (ad j).2.1 = some x) := Turned.of_grown hg' fun x hx => hx
  have t3 : Turned w1 w3 (fun x => x = b) := by
    rw [h3]
    exact (Turned.of_set (S := fun x => x = b) w1 _ _ rfl).trans (Turned.of_set _ _ _ rfl)
  have nb1 : ¬ (blk (ad j).1.1 = some b) := (hs.own j hj).1
  have nb2 : ¬ (blk (ad j).2.1 = some b) := (hs.own j hj).2
  have hl : (lmkTo fs k j).length = fs.length := lmkTo_len _ _ _
  have lift : ∀ {o : Nat} {v : Value}, w3.cell? ⟨b, o, none⟩ = some v → w5.cell? ⟨b, o, none⟩ = some v := fun hc => t5.cell (t4.cell hc nb1) nb2
  have fz : ∀ o, w5.frozen? ⟨b, o, none⟩ = w1.frozen? ⟨b, o, none⟩ := fun o => by
    have hb3 : b < w3.heap.size := Nat.lt_of_lt_of_le h.lt t3.size
    rw [t5.frozen (a := ⟨b, o, none⟩) (Nat.lt_of_lt_of_le hb3 t4.size) nb2, t4.frozen (a := ⟨b, o, none⟩) hb3 nb1, h3, World.frozen?_setCell, World.frozen?_setCell]
  have at_ : ∀ i, i < fs.length → i ≠ j → fg (lmkTo fs k (j + 1)) i = fg (lmkTo fs k j) i := fun i hi hne => by
    rw [lmkTo_at _ _ hi, lmkTo_at _ _ hi]
    have : (i < j + 1) = (i < j) := by simp; omega
    simp only [this]
  have atj : fg (lmkTo fs k (j + 1)) j = lmkF fs k j := by rw [lmkTo_at _ _ hj, if_pos (by omega)]
  refine ⟨fun i hi => ?_, fun i hi => ?_, fun i hi => ?_, fun i hi => ?_, ?_⟩
  · rw [lmkTo_len] at hi
    obtain ⟨c0, c1, c2, c3⟩ := h.cell i (by rw [hl]; exact hi)
    by_cases e : i = j
    · subst e
      rw [(lmkTo_pl k i hj).1] at c2
      rw [(lmkTo_pl k i hj).2] at c3
      unfold fid fkd fps fts
      rw [atj]
      refine ⟨lift ?_, lift ?_, lift ?_, lift ?_⟩
      · rw [h3, World.cell?_setCell_other _ _ _ _ (by simp)]
        exact World.cell?_setCell_same _ _ _ c0
      · rw [h3]
        exact World.cell?_setCell_same _ _ _ ((World.cell?_setCell_other _ _ _ _ (by simp)).trans c1)
      · rw [h3, World.cell?_setCell_other _ _ _ _ (by simp), World.cell?_setCell_other _ _ _ _ (by simp), c2]
        simp [lmkF, marks_len]
      · rw [h3, World.cell?_setCell_other _ _ _ _ (by simp), World.cell?_setCell_other _ _ _ _ (by simp), c3]
        simp [lmkF, marksT_len]
    · simp only [fid, fkd, fps, fts] at c0 c1 c2 c3 ⊢
      rw [at_ i hi e]
      refine ⟨lift ?_, lift ?_, lift ?_, lift ?_⟩ <;> rw [h3, World.cell?_setCell_other _ _ _ _ (by simp <;> omega), World.cell?_setCell_other _ _ _ _ (by simp <;> omega)] <;> assumption
  · rw [lmkTo_len] at hi
    rw [fz, fz]
    exact h.soft i (by rw [hl]; exact hi)
  · rw [lmkTo_len] at hi
    by_cases e : i = j
    · subst e
      unfold fps
      rw [atj]
      have t : Turned w4 w5 (fun x => blk (ad i).2.1 = some x) := t5
      have n : ∀ x, blk (ad i).1.1 = some x → ¬ (blk (ad i).2.1 = some x) := fun x hx => hs.two i hj x hx
      refine ⟨hp.turned t n, ?_⟩
      show Soft w5 _ (marks _ _).length
      have hps' : Soft w4 (ad i).1.1 (marks (lmk fs k i + 2) (fps fs i).length).length := by rw [marks_len]; exact hps
      exact hps'.turnedP hp t n
    · obtain ⟨q1, q2⟩ := h.pts i (by rw [hl]; exact hi)
      have q3 : ∀ x, blk (ad i).1.1 = some x → ¬ x = b := fun x hx e => (hs.own i hi).1 (e ▸ hx)
      have q4 : ∀ x, blk (ad i).1.1 = some x → ¬ blk (ad j).1.1 = some x := fun x hx => (hs.far i j hi hj e).1 x hx
      have q5 : ∀ x, blk (ad i).1.1 = some x → ¬ blk (ad j).2.1 = some x := fun x hx => (hs.far i j hi hj e).2.1 x hx
      unfold fps at q1 q2 ⊢
      rw [at_ i hi e]
      exact ⟨((q1.turned t3 q3).turned t4 q4).turned t5 q5, ((q2.turnedP q1 t3 q3).turnedP (q1.turned t3 q3) t4 q4).turnedP ((q1.turned t3 q3).turned t4 q4) t5 q5⟩
  · rw [lmkTo_len] at hi
    by_cases e : i = j
    · subst e
      unfold fts
      rw [atj]
      refine ⟨ht, ?_⟩
      show Soft w5 _ (marksT _ _).length
      rw [marksT_len]
      exact hts
    · obtain ⟨q1, q2⟩ := h.tags i (by rw [hl]; exact hi)
      have q3 : ∀ x, blk (ad i).2.1 = some x → ¬ x = b := fun x hx e => (hs.own i hi).2 (e ▸ hx)
      have q4 : ∀ x, blk (ad i).2.1 = some x → ¬ blk (ad j).1.1 = some x := fun x hx => (hs.far i j hi hj e).2.2.1 x hx
      have q5 : ∀ x, blk (ad i).2.1 = some x → ¬ blk (ad j).2.1 = some x := fun x hx => (hs.far i j hi hj e).2.2.2 x hx
      unfold fts at q1 q2 ⊢
      rw [at_ i hi e]
      exact ⟨((q1.turned t3 q3).turned t4 q4).turned t5 q5, ((q2.turnedT q1 t3 q3).turnedT (q1.turned t3 q3) t4 q4).turnedT ((q1.turned t3 q3).turned t4 q4) t5 q5⟩
  · exact Nat.lt_of_lt_of_le h.lt (Nat.le_trans t3.size (Nat.le_trans t4.size t5.size))
end Go.Proofs.YtdfadpejddhbkaaGreat

namespace Go.Proofs.YtdfadpejddhbkaaGreat
set_option linter.unusedVariables false
open Go.ChangeShapes Go.WideShapes Go.ChangeAt Go.RowKit Go.Deep

theorem TagsAt.turned2 {w w' : World} {a : Option Addr} {ts : List Tg} {S : Nat → Prop} (h : TagsAt w a ts) (ht : Turned w w' S) (hn : ts.length ≠ 0 → ∀ x, blk a = some x → ¬ S x) : TagsAt w' a ts := by
  intro i hi
  obtain ⟨b, off, rfl, hlt, h1, h2⟩ := h i hi
  exact ⟨b, off, rfl, Nat.lt_of_lt_of_le hlt ht.size, ht.cell h1 (hn (by omega) b rfl), ht.cell h2 (hn (by omega) b rfl)⟩

theorem TagsAt.set {w : World} {a : Option Addr} {ts : List Tg} (h : TagsAt w a ts) {c o : Nat} {v : Value} (hne : blk a ≠ some c) : TagsAt (w.setCell ⟨c, o, none⟩ v) a ts :=
  h.grown (r := some c) (grown_set (World.grownBy.refl _ _) _ _) (.inr hne)

def BoxS (w : World) (b : Nat) (v0 v1 v2 v3 : Value) : Prop := Box4 w b v0 v1 v2 v3 ∧ ∀ o, w.frozen? ⟨b, o, none⟩ = false
theorem BoxS.later {w w' : World} {b : Nat} {v0 v1 v2 v3 : Value} (h : BoxS w b v0 v1 v2 v3) (hb : Below w.heap.size w w') : BoxS w' b v0 v1 v2 v3 := ⟨h.1.later hb, fun o => (hb.frozen (p := ⟨b, o, none⟩) h.1.lt).trans (h.2 o)⟩
theorem BoxS.new (w : World) (v0 v1 v2 v3 : Value) (t : TypeId) : BoxS (w.alloc (.cells #[v0, v1, v2, v3] t)) w.heap.size v0 v1 v2 v3 := ⟨Box4.new w v0 v1 v2 v3 t, fun o => by simp [go_sem]⟩

/-- a shape in a box made since, its points in a row made since -/
def ShBoxC (W : World) (k : Int) (ps : List (Int × Int)) (s : Nat) (ga : Option Addr) (cap2 : Nat) (wx : World) : Prop :=
  wx.cell? ⟨s, 0, none⟩ = some (.int .i64 k) ∧ wx.cell? ⟨s, 1, none⟩ = some (.slice ga ps.length cap2) ∧ PtsAt wx ga ps ∧ Soft wx ga ps.length ∧ (∀ x, blk ga = some x → W.heap.size ≤ x ∧ x < wx.heap.size) ∧ W.heap.size ≤ s ∧ s < wx.heap.size ∧ Below W.heap.size W wx

theorem shBoxC_late {W wn : World} {k : Int} {ps : List (Int × Int)} {ga : Option Addr} {cap2 : Nat} {t : TypeId} (hpt : PtsAt wn ga ps) (hso : Soft wn ga ps.length) (hg : Fresh W.drew wn ga) (hb : Below W.heap.size W wn) :
    ShBoxC W k ps wn.heap.size ga cap2 (wn.alloc (.cells #[.int .i64 k, .slice ga ps.length cap2] t)) := by
  have ba : Below wn.heap.size wn (wn.alloc (.cells #[.int .i64 k, .slice ga ps.length cap2] t)) := (Below.refl _ _).alloc (Nat.le_refl _) _
  exact ⟨by simp [go_sem], by simp [go_sem], hpt.below ba, hso.below hpt ba, fun x hx => ⟨(hg x hx).1, by have := (hg x hx).2; simp; omega⟩, hb.size, by simp, hb.trans (ba.mono hb.size)⟩

theorem shBoxC_soon {W wn : World} {k : Int} {ps : List (Int × Int)} {ga : Option Addr} {cap2 : Nat} {O : Obj} {u0 u1 : Value} (hpt : PtsAt wn ga ps) (hso : Soft wn ga ps.length) (hg : Fresh (W.alloc O).drew wn ga) (hb : Below W.heap.size W wn) (c0 : wn.cell? ⟨W.heap.size, 0, none⟩ = some u0) (c1 : wn.cell? ⟨W.heap.size, 1, none⟩ = some u1) :
    ShBoxC W k ps W.heap.size ga cap2 ((wn.setCell ⟨W.heap.size, 0, none⟩ (.int .i64 k)).setCell ⟨W.heap.size, 1, none⟩ (.slice ga ps.length cap2)) := by
  have hne : blk ga ≠ some W.heap.size := fun e => by have := (hg _ e).1; change (W.alloc O).heap.size ≤ _ at this; simp at this; omega
  refine ⟨?_, ?_, (hpt.set hne).set hne, (hso.set _ _).set _ _, fun x hx => ⟨by have := (hg x hx).1; change (W.alloc O).heap.size ≤ _ at this; simp at this; omega, by have := (hg x hx).2; simpa [World.setCell] using this⟩, Nat.le_refl _, by have := World.block_lt_of_cell? _ _ c0; simpa [World.setCell] using this, (hb.setCell (Nat.le_refl _) _).setCell (Nat.le_refl _) _⟩
  · rw [World.cell?_setCell_other _ _ _ _ (by simp)]
    exact World.cell?_setCell_same _ _ _ c0
  · exact World.cell?_setCell_same _ _ _ ((World.cell?_setCell_other _ _ _ _ (by simp)).trans c1)

theorem boxFacts {W wn : World} (hbn : Below ((W.alloc (.cells #[.int .i64 0, .slice none 0 0] 30)).drew).heap.size ((W.alloc (.cells #[.int .i64 0, .slice none 0 0] 30)).drew) wn) :
    wn.cell? ⟨W.heap.size, 0, none⟩ = some (.int .i64 0) ∧ wn.cell? ⟨W.heap.size, 1, none⟩ = some (.slice none 0 0) ∧ wn.frozen? ⟨W.heap.size, 0, none⟩ = false ∧ wn.frozen? ⟨W.heap.size, 1, none⟩ = false := by
  refine ⟨cell_later hbn (by simp [go_sem]), cell_later hbn (by simp [go_sem]), ?_, ?_⟩
  · rw [hbn.frozen (p := ⟨W.heap.size, 0, none⟩) (by simp)]
    simp [go_sem]
  · rw [hbn.frozen (p := ⟨W.heap.size, 1, none⟩) (by simp)]
    simp [go_sem]

theorem Kept1.box {W wy : World} {r : Nat} {v0 v1 v2 v3 : Value} (hk : Kept1 W r wy) (h4 : ∀ i, i < 4 → (W.cell? ⟨r, i, none⟩).isSome = true) :
    Box4 ((((wy.setCell ⟨r, 0, none⟩ v0).setCell ⟨r, 1, none⟩ v1).setCell ⟨r, 2, none⟩ v2).setCell ⟨r, 3, none⟩ v3) r v0 v1 v2 v3 := by
  obtain ⟨u0, s0⟩ := Option.isSome_iff_exists.1 (hk.some 0 (h4 0 (by omega)))
  obtain ⟨u1, s1⟩ := Option.isSome_iff_exists.1 (hk.some 1 (h4 1 (by omega)))
  obtain ⟨u2, s2⟩ := Option.isSome_iff_exists.1 (hk.some 2 (h4 2 (by omega)))
  obtain ⟨u3, s3⟩ := Option.isSome_iff_exists.1 (hk.some 3 (h4 3 (by omega)))
  have far : ∀ (w : World) (o o' : Nat) (v : Value), o ≠ o' → (w.setCell ⟨r, o, none⟩ v).cell? ⟨r, o', none⟩ = w.cell? ⟨r, o', none⟩ := fun w o o' v hne => World.cell?_setCell_other w ⟨r, o, none⟩ ⟨r, o', none⟩ v (fun h => hne (congrArg Addr.off h))
  refine ⟨?_, ?_, ?_, ?_⟩
  · rw [far _ _ _ _ (by omega), far _ _ _ _ (by omega), far _ _ _ _ (by omega)]
    exact World.cell?_setCell_same _ _ _ s0
  · rw [far _ _ _ _ (by omega), far _ _ _ _ (by omega)]
    exact World.cell?_setCell_same _ _ _ ((far _ _ _ _ (by omega)).trans s1)
  · rw [far _ _ _ _ (by omega)]
    exact World.cell?_setCell_same _ _ _ ((far _ _ _ _ (by omega)).trans ((far _ _ _ _ (by omega)).trans s2))
  · exact World.cell?_setCell_same _ _ _ ((far _ _ _ _ (by omega)).trans ((far _ _ _ _ (by omega)).trans ((far _ _ _ _ (by omega)).trans s3)))

theorem drewBelow {W wn : World} (hbn : Below W.drew.heap.size W.drew wn) : Below W.heap.size W wn := ((Below.refl _ W).drew).trans hbn

theorem boxBelow {W wn : World} {O : Obj} (hbn : Below ((W.alloc O).drew).heap.size ((W.alloc O).drew) wn) : Below W.heap.size W wn :=
  (((Below.refl _ W).alloc (Nat.le_refl _) O).drew).trans (hbn.mono (by simp))

set_option maxRecDepth 100000 in
set_option maxHeartbeats 6400000 in
theorem featCopy_any (id : ByteArray) (k : Int) (a : Option Addr) (cap : Nat) (ps : List (Int × Int)) (c : Option Addr) (ca : Nat) (ts : List Tg) (w : World) (hp : PtsAt w a ps) (ht : TagsAt w c ts) (hl : ps.length ≤ 1048576) (hm : ts.length ≤ 1048576) :
    Calls Tryz.prog 62 #[.agg #[.string id, .int .i64 k, .slice a ps.length cap, .slice c ts.length ca]] w fun e w' => ∃ v, e = .returned v ∧ FeatAns w id k ps ts v w' := by
  have HP := Lib.hid hp
  have HT := Lib.hid ht
  have NC : Hid (ts.length ≠ 0 → ∀ x, blk c = some x → ¬ x = w.heap.size + 1) := fun h x hx e => by
    obtain ⟨b, off, rfl, hlt, _⟩ := ht 0 (by omega)
    obtain rfl : b = x := by simpa [blk] using hx
    omega
  clear hp ht
  go_enter Tryz.func62, Tryz.ntmps62
  go_upto_region 1 with (fail)
  obtain ⟨W, hW⟩ : ∃ W, W = ((w.alloc (.cells #[.string id, .int .i64 k, .slice a ps.length cap, .slice c ts.length ca] 33)).alloc (.cells #[.string ⟨#[]⟩, .int .i64 0, .slice none 0 0, .slice none 0 0] 33)) := ⟨_, rfl⟩
  have B0 : Hid (Below w.heap.size w W) := by rw [hW]; exact ((Below.refl _ _).alloc (Nat.le_refl _) _).alloc (by simp) _
  have hz : Hid (W.heap.size = w.heap.size + 1 + 1) := by show _ = _; rw [hW]; simp
  have RB : Hid (BoxS W (w.heap.size + 1) (.string ⟨#[]⟩) (.int .i64 0) (.slice none 0 0) (.slice none 0 0)) := by
    have := BoxS.new (w.alloc (.cells #[.string id, .int .i64 k, .slice a ps.length cap, .slice c ts.length ca] 33)) (.string ⟨#[]⟩) (.int .i64 0) (.slice none 0 0) (.slice none 0 0) 33
    rw [hW]
    simpa [Hid] using this
  have CB : Hid (Box4 W w.heap.size (.string id) (.int .i64 k) (.slice a ps.length cap) (.slice c ts.length ca)) := by rw [hW]; exact (Box4.new w _ _ _ _ _).alloc _
  have SOF : Hid (∀ wy, Below W.heap.size W wy → wy.cell? ⟨w.heap.size, 0, none⟩ = some (.string id) ∧ wy.cell? ⟨w.heap.size, 1, none⟩ = some (.int .i64 k) ∧ wy.cell? ⟨w.heap.size, 2, none⟩ = some (.slice a ps.length cap) ∧ wy.cell? ⟨w.heap.size, 3, none⟩ = some (.slice c ts.length ca) ∧ Below W.heap.size W wy) := by
    intro wy hb
    obtain ⟨q0, q1, q2, q3⟩ := CB.out.later hb
    exact ⟨q0, q1, q2, q3, hb⟩
  rw [← hW]
  have m1 : ¬ w.heap.size = W.heap.size := by have := hz.out; omega
  have m2 : ¬ w.heap.size + 1 = W.heap.size := by have := hz.out; omega
  clear hW
  go_cut [3] (fun s5 wx => ∃ s ga cap2, s5 = .pointer (some ⟨s, 0, none⟩) ∧ ShBoxC W k ps s ga cap2 wx)
  case first =>
    go_region_held3 (fun wy => wy.cell? ⟨w.heap.size, 0, none⟩ = some (.string id) ∧ wy.cell? ⟨w.heap.size, 1, none⟩ = some (.int .i64 k) ∧ wy.cell? ⟨w.heap.size, 2, none⟩ = some (.slice a ps.length cap) ∧ wy.cell? ⟨w.heap.size, 3, none⟩ = some (.slice c ts.length ca) ∧ Below W.heap.size W wy)
      (first
        | exact SOF.out _ ((Below.refl _ _).drew)
        | (go_split_ands
           rename_i hS
           exact SOF.out _ (hS.trans (hbn.mono hS.size)))
        | (go_split_ands
           rename_i hS
           exact SOF.out _ (hS.alloc hS.size _))
        | exact SOF.out _ ((drewBelow hbn).alloc hbn.size _)
        | (go_split_ands
           rename_i hS
           exact SOF.out _ ((hS.setCell (Nat.le_refl _) _).setCell (Nat.le_refl _) _)))
      (first
        | (go_at_call 115
           refine (cloneP_any a cap ps _ ?_ hl).mono ?_
           · (go_split_ands; rename_i hS; exact HP.out.below (B0.out.trans (hS.mono B0.out.size)))
           rintro e wn ⟨ga, cap2, rfl, hpt, hso, hg, hbn⟩
           try (first | have tf := boxFacts hbn)
           try (obtain ⟨t0, t1, u0, u1⟩ := tf)))
    all_goals (go_wp2_with fail; go_meet; go_split_ands; first | exact ⟨_, ga, cap2, rfl, shBoxC_late hpt hso hg (drewBelow hbn)⟩ | exact ⟨_, ga, cap2, rfl, shBoxC_soon hpt hso hg (boxBelow hbn) t0 t1⟩)
  case rest =>
    obtain ⟨s, ga, cap2, rfl, hsh⟩ := hcut
    obtain ⟨d0, d1, hpt, hso, hg, hs, hslt, hbW⟩ := hsh
    have hz' := hz.out
    have D0 := Lib.hid d0
    have D1 := Lib.hid d1
    have PC := Lib.hid hpt
    have SC := Lib.hid hso
    have RC := Lib.hid (RB.out.later hbW)
    have CC := Lib.hid (CB.out.later hbW)
    have BC : Hid (Below w.heap.size w wc) := B0.out.trans (hbW.mono B0.out.size)
    have TC : Hid (TagsAt wc c ts) := HT.out.below BC.out
    have HGA := Lib.hid hg
    have zc : w.heap.size + 1 < wc.heap.size := RC.out.1.lt
    have H4 : Hid (∀ i, i < 4 → (wc.cell? ⟨w.heap.size + 1, i, none⟩).isSome = true) := by
      intro i hi
      obtain ⟨⟨q0, q1, q2, q3⟩, _⟩ := RC.out
      rcases (show i = 0 ∨ i = 1 ∨ i = 2 ∨ i = 3 by omega) with rfl | rfl | rfl | rfl
      · rw [q0]; rfl
      · rw [q1]; rfl
      · rw [q2]; rfl
      · rw [q3]; rfl
    have SOF2 : Hid (∀ wy, Kept1 wc (w.heap.size + 1) wy → wy.cell? ⟨w.heap.size, 0, none⟩ = some (.string id) ∧ wy.cell? ⟨w.heap.size, 3, none⟩ = some (.slice c ts.length ca) ∧ wy.cell? ⟨s, 0, none⟩ = some (.int .i64 k) ∧ wy.cell? ⟨s, 1, none⟩ = some (.slice ga ps.length cap2) ∧ wy.cell? ⟨(w.heap.size + 1), 0, none⟩ = some (cellOf wy (w.heap.size + 1) 0) ∧ wy.cell? ⟨(w.heap.size + 1), 1, none⟩ = some (cellOf wy (w.heap.size + 1) 1) ∧ wy.cell? ⟨(w.heap.size + 1), 2, none⟩ = some (cellOf wy (w.heap.size + 1) 2) ∧ wy.cell? ⟨(w.heap.size + 1), 3, none⟩ = some (cellOf wy (w.heap.size + 1) 3) ∧ wy.frozen? ⟨(w.heap.size + 1), 0, none⟩ = false ∧ wy.frozen? ⟨(w.heap.size + 1), 1, none⟩ = false ∧ wy.frozen? ⟨(w.heap.size + 1), 2, none⟩ = false ∧ wy.frozen? ⟨(w.heap.size + 1), 3, none⟩ = false ∧ Kept1 wc (w.heap.size + 1) wy) := by
      intro wy hb
      have far : ∀ {x o : Nat} {u : Value}, wc.cell? ⟨x, o, none⟩ = some u → x ≠ w.heap.size + 1 → wy.cell? ⟨x, o, none⟩ = some u := fun h hne => (hb.grown.cell_far _ (World.block_lt_of_cell? _ _ h) (by simpa using hne)).trans h
      have hf : ∀ o, wy.frozen? ⟨w.heap.size + 1, o, none⟩ = false := fun o => (hb.soft _ (by show w.heap.size + 1 < _; omega)).trans (RC.out.2 o)
      exact ⟨far CC.out.1 (by omega), far CC.out.2.2.2 (by omega), far D0.out (by omega), far D1.out (by omega), cellOf_some (hb.some _ (H4.out 0 (by omega))), cellOf_some (hb.some _ (H4.out 1 (by omega))), cellOf_some (hb.some _ (H4.out 2 (by omega))), cellOf_some (hb.some _ (H4.out 3 (by omega))), hf 0, hf 1, hf 2, hf 3, hb⟩
    have ms1 : ¬ s = w.heap.size + 1 := by omega
    have ms2 : ¬ w.heap.size + 1 = s := by omega
    clear d0 d1 hpt hso hbW SOF
    go_upto_region 2 with (fail)
    go_cut [17] (fun s19 wx => ∃ a3 cap3, Box4 wx (w.heap.size + 1) (.string id) (.int .i64 k) (.slice ga ps.length cap2) (.slice a3 ts.length cap3) ∧ PtsAt wx ga ps ∧ Soft wx ga ps.length ∧ TagsAt wx a3 ts ∧ Soft wx a3 ts.length ∧ (∀ x, blk a3 = some x → wc.heap.size ≤ x ∧ x < wx.heap.size) ∧ wc.heap.size ≤ wx.heap.size ∧ Below w.heap.size w wx)
    case first =>
      go_region_held3 (fun wy => wy.cell? ⟨w.heap.size, 0, none⟩ = some (.string id) ∧ wy.cell? ⟨w.heap.size, 3, none⟩ = some (.slice c ts.length ca) ∧ wy.cell? ⟨s, 0, none⟩ = some (.int .i64 k) ∧ wy.cell? ⟨s, 1, none⟩ = some (.slice ga ps.length cap2) ∧ wy.cell? ⟨(w.heap.size + 1), 0, none⟩ = some (cellOf wy (w.heap.size + 1) 0) ∧ wy.cell? ⟨(w.heap.size + 1), 1, none⟩ = some (cellOf wy (w.heap.size + 1) 1) ∧ wy.cell? ⟨(w.heap.size + 1), 2, none⟩ = some (cellOf wy (w.heap.size + 1) 2) ∧ wy.cell? ⟨(w.heap.size + 1), 3, none⟩ = some (cellOf wy (w.heap.size + 1) 3) ∧ wy.frozen? ⟨(w.heap.size + 1), 0, none⟩ = false ∧ wy.frozen? ⟨(w.heap.size + 1), 1, none⟩ = false ∧ wy.frozen? ⟨(w.heap.size + 1), 2, none⟩ = false ∧ wy.frozen? ⟨(w.heap.size + 1), 3, none⟩ = false ∧ Kept1 wc (w.heap.size + 1) wy)
        (first
          | exact SOF2.out _ (Kept1.refl zc).drew
          | (go_split_ands
             rename_i hS
             exact SOF2.out _ (hS.below hbn))
          | (go_split_ands
             rename_i hS
             exact SOF2.out _ ((((hS.set _ _).set _ _).set _ _).set _ _)))
        (first
          | (go_at_call 116
             refine (cloneT_any c ca ts _ ?_ hm).mono ?_
             · (go_split_ands; rename_i hS; exact TC.out.turned2 (S := fun x => x = w.heap.size + 1) ⟨hS.grown.os, hS.grown.tape, hS.grown.output, hS.grown.size, fun x hx hn => hS.grown.block x hx (fun e => hn (by simpa using e))⟩ NC.out)
             rintro e wn ⟨a3, cap3, rfl, hT, hTS, hTN, hbn⟩))
      all_goals
        go_wp2_with fail
        go_meet
        have hk := (Kept1.refl zc).drew.below hbn
        have hb := drewBelow hbn
        have ng : blk ga ≠ some (w.heap.size + 1) := fun e => by have h := (HGA.out _ e).1; omega
        have na : blk a3 ≠ some (w.heap.size + 1) := fun e => by have h := (hTN _ e).1; change wc.heap.size ≤ _ at h; omega
        exact ⟨a3, cap3, hk.box H4.out, ((((PC.out.below hb).set ng).set ng).set ng).set ng, ((((SC.out.below PC.out hb).set _ _).set _ _).set _ _).set _ _, (((hT.set na).set na).set na).set na, (((hTS.set _ _).set _ _).set _ _).set _ _, fun x e => ⟨(hTN x e).1, by have := (hTN x e).2; simpa [World.setCell] using this⟩, by have := hb.size; simpa [World.setCell] using this, ((((hk.set _ _).set _ _).set _ _).set _ _).under BC.out⟩
    case rest =>
      obtain ⟨a3, cap3, ⟨r0, r1, r2, r3⟩, hP, hPS, hT, hTS, hTN, hsz, hB⟩ := hcut
      have E1 := Lib.hid hP
      have E2 := Lib.hid hPS
      have E3 := Lib.hid hT
      have E4 := Lib.hid hTS
      have E5 := Lib.hid hTN
      have E6 := Lib.hid hB
      clear hP hPS hT hTS hTN hB
      go_wp2
      refine bodyPost_ret (v := .agg #[.string id, .int .i64 k, .slice ga ps.length cap2, .slice a3 ts.length cap3]) (by simp [results, Tryz.results62, go_sem, r0, r1, r2, r3]) rfl ?_
      exact ⟨_, rfl, _, cap2, a3, cap3, rfl, E1.out, E2.out, fun x e => ⟨by have := (HGA.out x e).1; omega, by have := (HGA.out x e).2; omega⟩, E3.out, E4.out, fun x e => ⟨by have := (E5.out x e).1; omega, (E5.out x e).2⟩, fun x e e' => by have h1 := (HGA.out x e).2; have h2 := (E5.out _ e').1; omega, E6.out⟩
end Go.Proofs.YtdfadpejddhbkaaGreat

namespace Go.Proofs.YtdfadpejddhbkaaGreat
set_option linter.unusedVariables false
open Go.ChangeShapes Go.WideShapes Go.ChangeAt Go.RowKit Go.Deep

theorem keptA {W wn : World} {r : Nat} (hbn : Below W.drew.heap.size W.drew wn) (h : r < W.heap.size) : Kept1 W r wn := (Kept1.refl h).drew.below hbn
theorem keptB {W wn : World} {O : Obj} {r : Nat} (hbn : Below (W.alloc O).drew.heap.size (W.alloc O).drew wn) (h : r < W.heap.size) : Kept1 W r wn := ((Kept1.refl h).alloc O).drew.below hbn
theorem aBelow (wn : World) (O : Obj) : Below wn.heap.size wn (wn.alloc O) := (Below.refl _ _).alloc (Nat.le_refl _) _
theorem szA {W : World} {O : Obj} {B : Nat} (h : W.heap.size = B + 1 + 1) : (W.alloc O).drew.heap.size = B + 1 + 1 + 1 := by show (W.alloc O).heap.size = _; rw [World.size_alloc]; omega

theorem PP2 {V wn : World} {g : Nat} {ps : List (Int × Int)} {v0 v1 v2 v3 : Value} {B : Nat} (hpt : PtsAt wn (some ⟨g, 0, none⟩) ps) (hso : Soft wn (some ⟨g, 0, none⟩) ps.length) (hg : V.heap.size ≤ g) (hglt : g < wn.heap.size) (hW : V.heap.size = B + 1 + 1 + 1 ∨ V.heap.size = B + 1 + 1) :
    PtsAt ((((wn.setCell ⟨B + 1, 0, none⟩ v0).setCell ⟨B + 1, 1, none⟩ v1).setCell ⟨B + 1, 2, none⟩ v2).setCell ⟨B + 1, 3, none⟩ v3) (some ⟨g, 0, none⟩) ps ∧ Soft ((((wn.setCell ⟨B + 1, 0, none⟩ v0).setCell ⟨B + 1, 1, none⟩ v1).setCell ⟨B + 1, 2, none⟩ v2).setCell ⟨B + 1, 3, none⟩ v3) (some ⟨g, 0, none⟩) ps.length ∧
      ∀ x, blk (some ⟨g, 0, none⟩) = some x → B + 1 < x ∧ x < ((((wn.setCell ⟨B + 1, 0, none⟩ v0).setCell ⟨B + 1, 1, none⟩ v1).setCell ⟨B + 1, 2, none⟩ v2).setCell ⟨B + 1, 3, none⟩ v3).heap.size := by
  have hne : blk (some ⟨g, 0, none⟩) ≠ some (B + 1) := by simp [blk]; omega
  exact ⟨(((hpt.set hne).set hne).set hne).set hne, (((hso.set _ _).set _ _).set _ _).set _ _, fun x e => by obtain rfl : g = x := (by simpa [blk] using e); exact ⟨by omega, by simpa [World.setCell] using hglt⟩⟩

set_option maxRecDepth 100000 in
set_option maxHeartbeats 2000000 in
theorem l2Copy_n0 (id : ByteArray) (k : Int) (b off cap : Nat) (ps : List (Int × Int)) (c : Option Addr) (ca : Nat) (w : World) (hp : PtsAt w (some ⟨b, off, none⟩) ps) (hl : ps.length ≤ 1048576) (h0 : 0 < ps.length) :
    Calls Tryz.prog 63 #[.agg #[.string id, .int .i64 k, .slice (some ⟨b, off, none⟩) ps.length cap, .slice c 0 ca]] w fun e w' => ∃ ax cx ay cy, e = .returned (.agg #[.string id, .int .i64 k, .slice ax ps.length cx, .slice ay 0 cy]) ∧ (PtsAt w' ax ps ∧ Soft w' ax ps.length ∧ Fresh w w' ax) ∧ Below w.heap.size w w' := by
  have HP := Lib.hid hp
  clear hp
  obtain ⟨i0, hi, hz0, hz1, hz2⟩ := info_parts infoT
  have HI := Lib.hid hi
  have HZ0 := Lib.hid hz0
  have HZ1 := Lib.hid hz1
  have HZ2 := Lib.hid hz2
  clear hi hz0 hz1 hz2
  go_enter Tryz.func63, Tryz.ntmps63
  go_upto_region 1 with (fail)
  obtain ⟨W, hW⟩ : ∃ W, W = ((w.alloc (.cells #[.string id, .int .i64 k, .slice (some ⟨b, off, none⟩) ps.length cap, .slice c 0 ca] 33)).alloc (.cells #[.string ⟨#[]⟩, .int .i64 0, .slice none 0 0, .slice none 0 0] 33)) := ⟨_, rfl⟩
  have B0 : Hid (Below w.heap.size w W) := by rw [hW]; exact ((Below.refl _ _).alloc (Nat.le_refl _) _).alloc (by simp) _
  have hz : Hid (W.heap.size = w.heap.size + 1 + 1) := by show _ = _; rw [hW]; simp
  have SOF : Hid (∀ wy, Kept1 W (w.heap.size + 1) wy → wy.cell? ⟨w.heap.size, 0, none⟩ = some (.string id) ∧ wy.cell? ⟨w.heap.size, 1, none⟩ = some (.int .i64 k) ∧ wy.cell? ⟨w.heap.size, 2, none⟩ = some (.slice (some ⟨b, off, none⟩) ps.length cap) ∧ wy.cell? ⟨w.heap.size, 3, none⟩ = some (.slice c 0 ca) ∧ wy.cell? ⟨(w.heap.size + 1), 0, none⟩ = some (cellOf wy (w.heap.size + 1) 0) ∧ wy.cell? ⟨(w.heap.size + 1), 1, none⟩ = some (cellOf wy (w.heap.size + 1) 1) ∧ wy.cell? ⟨(w.heap.size + 1), 2, none⟩ = some (cellOf wy (w.heap.size + 1) 2) ∧ wy.cell? ⟨(w.heap.size + 1), 3, none⟩ = some (cellOf wy (w.heap.size + 1) 3) ∧ wy.frozen? ⟨(w.heap.size + 1), 0, none⟩ = false ∧ wy.frozen? ⟨(w.heap.size + 1), 1, none⟩ = false ∧ wy.frozen? ⟨(w.heap.size + 1), 2, none⟩ = false ∧ wy.frozen? ⟨(w.heap.size + 1), 3, none⟩ = false ∧ Kept1 W (w.heap.size + 1) wy) := by
    intro wy hb
    have hz := hz.out
    have hc : ∀ o, wy.cell? ⟨w.heap.size, o, none⟩ = W.cell? ⟨w.heap.size, o, none⟩ := fun o => hb.grown.cell_far ⟨w.heap.size, o, none⟩ (by show w.heap.size < _; omega) (by simp)
    have hf : ∀ o, wy.frozen? ⟨w.heap.size + 1, o, none⟩ = W.frozen? ⟨w.heap.size + 1, o, none⟩ := fun o => hb.soft _ (by show w.heap.size + 1 < _; omega)
    refine ⟨?_, ?_, ?_, ?_, cellOf_some (hb.some _ ?_), cellOf_some (hb.some _ ?_), cellOf_some (hb.some _ ?_), cellOf_some (hb.some _ ?_), ?_, ?_, ?_, ?_, hb⟩
    all_goals first | rw [hc, hW] | rw [hf, hW] | rw [hW]
    all_goals simp [go_sem]
  have zR : Hid (w.heap.size + 1 < W.heap.size) := by have := hz.out; show _ < _; omega
  have H4 : Hid (∀ i, i < 4 → (W.cell? ⟨w.heap.size + 1, i, none⟩).isSome = true) := by
    intro i hi
    rw [hW]
    rcases (show i = 0 ∨ i = 1 ∨ i = 2 ∨ i = 3 by omega) with rfl | rfl | rfl | rfl <;> simp [go_sem]
  rw [← hW]
  have m1 : ¬ w.heap.size = W.heap.size := by have := hz.out; omega
  have m2 : ¬ w.heap.size + 1 = W.heap.size := by have := hz.out; omega
  clear hW
  go_cut [12] (fun s12 wx => ∃ ax cx ay cy, Box4 wx (w.heap.size + 1) (.string id) (.int .i64 k) (.slice ax ps.length cx) (.slice ay 0 cy) ∧ PtsAt wx ax ps ∧ Soft wx ax ps.length ∧ (∀ x, blk ax = some x → w.heap.size + 1 < x ∧ x < wx.heap.size) ∧ Below w.heap.size w wx)
  case first =>
    go_region_held3 (fun wy => wy.cell? ⟨w.heap.size, 0, none⟩ = some (.string id) ∧ wy.cell? ⟨w.heap.size, 1, none⟩ = some (.int .i64 k) ∧ wy.cell? ⟨w.heap.size, 2, none⟩ = some (.slice (some ⟨b, off, none⟩) ps.length cap) ∧ wy.cell? ⟨w.heap.size, 3, none⟩ = some (.slice c 0 ca) ∧ wy.cell? ⟨(w.heap.size + 1), 0, none⟩ = some (cellOf wy (w.heap.size + 1) 0) ∧ wy.cell? ⟨(w.heap.size + 1), 1, none⟩ = some (cellOf wy (w.heap.size + 1) 1) ∧ wy.cell? ⟨(w.heap.size + 1), 2, none⟩ = some (cellOf wy (w.heap.size + 1) 2) ∧ wy.cell? ⟨(w.heap.size + 1), 3, none⟩ = some (cellOf wy (w.heap.size + 1) 3) ∧ wy.frozen? ⟨(w.heap.size + 1), 0, none⟩ = false ∧ wy.frozen? ⟨(w.heap.size + 1), 1, none⟩ = false ∧ wy.frozen? ⟨(w.heap.size + 1), 2, none⟩ = false ∧ wy.frozen? ⟨(w.heap.size + 1), 3, none⟩ = false ∧ Kept1 W (w.heap.size + 1) wy)
      (first
        | assumption
        | with_reducible exact SOF.out _ (Kept1.refl zR.out).drew
        | (go_split_ands
           rename_i hS
           with_reducible exact SOF.out _ (hS.below hbn))
        | (go_split_ands
           rename_i hS
           first | with_reducible exact SOF.out _ ((Kept1.refl zR.out).alloc _).drew | exact SOF.out _ (hS.alloc _))
        | (go_split_ands
           rename_i hS
           with_reducible exact SOF.out _ ((((hS.set _ _).set _ _).set _ _).set _ _)))
      (first
        | (go_at_call 117
           refine (l1Copy_any k b off cap ps _ ?_ hl h0).mono ?_
           · (go_split_ands; rename_i hS; exact HP.out.below (hS.under B0.out))
           rintro e wn ⟨g, cap2, rfl, hpt, hso, hg, hglt, hbn⟩
           first | have hk := keptA hbn zR.out | have hk := keptB hbn zR.out | skip)
        | (refine step_append0 _ (by rfl) _ _ _ (by rfl) 92 i0 Tryz.underlying31 HI.out _ _ _ (by rfl) (by rfl) ?_))
    all_goals (go_wp2_with fail; go_meet; first | ((with_reducible refine ⟨_, _, _, _, hk.box H4.out, ?_⟩); exact ⟨(PP2 (V := (W.alloc _).drew) hpt hso hg hglt (.inl (szA hz.out))).1, (PP2 (V := (W.alloc _).drew) hpt hso hg hglt (.inl (szA hz.out))).2.1, (PP2 (V := (W.alloc _).drew) hpt hso hg hglt (.inl (szA hz.out))).2.2, ((((hk.set _ _).set _ _).set _ _).set _ _).under B0.out⟩) | ((with_reducible refine ⟨_, _, _, _, (hk.alloc _).box H4.out, ?_⟩); exact ⟨(PP2 (V := W) (hpt.below (aBelow wn _)) (hso.below hpt (aBelow wn _)) hg (Nat.lt_of_lt_of_le hglt (aBelow wn _).size) (.inr hz.out)).1, (PP2 (V := W) (hpt.below (aBelow wn _)) (hso.below hpt (aBelow wn _)) hg (Nat.lt_of_lt_of_le hglt (aBelow wn _).size) (.inr hz.out)).2.1, (PP2 (V := W) (hpt.below (aBelow wn _)) (hso.below hpt (aBelow wn _)) hg (Nat.lt_of_lt_of_le hglt (aBelow wn _).size) (.inr hz.out)).2.2, (((((hk.alloc _).set _ _).set _ _).set _ _).set _ _).under B0.out⟩))
  case rest =>
    obtain ⟨ax, cx, ay, cy, ⟨r0, r1, r2, r3⟩, hQ1, hQ2, hQ3, hB⟩ := hcut
    have B := Lib.hid hB
    have Q1 := Lib.hid hQ1
    have Q2 := Lib.hid hQ2
    have Q3 := Lib.hid hQ3
    clear hQ1 hQ2 hQ3
    clear hB
    go_wp2
    refine bodyPost_ret (v := .agg #[.string id, .int .i64 k, .slice ax ps.length cx, .slice ay 0 cy]) (by simp [results, Tryz.results63, go_sem, r0, r1, r2, r3]) rfl ?_
    exact ⟨ax, cx, ay, cy, rfl, ⟨Q1.out, Q2.out, fun x e => ⟨by have := (Q3.out x e).1; omega, (Q3.out x e).2⟩⟩, B.out⟩

end Go.Proofs.YtdfadpejddhbkaaGreat

namespace Go.Proofs
open Go.Shelf
def Tryz.keysF_ren : Go.Shelf.Ren := ⟨fun | 7 => 122 | 10 => 159 | n => n, fun | 23 => 81 | 26 => 9 | 3 => 33 | 28 => 156 | 0 => 0 | 27 => 155 | 33 => 112 | 4 => 4 | n => n, fun | n => n⟩
theorem Tryz.keysF : Go.Proofs.SlLaysZ.n7 Tryz.prog Tryz.keysF_ren := {
  mixed := by kernel_rfl
  f7 := ⟨Tryz.f122.name, by decide, Tryz.func122.trans (congrArg some (by kernel_rfl))⟩
  f10 := ⟨Tryz.f159.name, by decide, Tryz.func159.trans (congrArg some (by kernel_rfl))⟩
  t0 := Tryz.underlying0
  a0 := Tryz.isAgg0
  z0 := Tryz.sizeOf0
  v0 := Tryz.zeroValue0
  t4 := Tryz.underlying4
  a4 := Tryz.isAgg4
  z4 := Tryz.sizeOf4
  v4 := Tryz.zeroValue4
  t23 := Tryz.underlying81
  a23 := Tryz.isAgg81
  z23 := Tryz.sizeOf81
  v23 := Tryz.zeroValue81
  t26 := Tryz.underlying9
  a26 := Tryz.isAgg9
  z26 := Tryz.sizeOf9
  v26 := Tryz.zeroValue9
  t27 := Tryz.underlying155
  a27 := Tryz.isAgg155
  z27 := Tryz.sizeOf155
  v27 := Tryz.zeroValue155
  t28 := Tryz.underlying156
  a28 := Tryz.isAgg156
  z28 := Tryz.sizeOf156
  v28 := Tryz.zeroValue156
  t33 := Tryz.underlying112
  a33 := Tryz.isAgg112
  z33 := Tryz.sizeOf112
  v33 := Tryz.zeroValue112 }
def Tryz.sortedF_ren : Go.Shelf.Ren := ⟨fun | 6 => 121 | 8 => 157 | 9 => 158 | 11 => 188 | 13 => 190 | 12 => 189 | 23 => 212 | 24 => 213 | 14 => 203 | 15 => 204 | 16 => 205 | 17 => 206 | 18 => 207 | 19 => 208 | 20 => 209 | 21 => 210 | 22 => 211 | 25 => 217 | 26 => 218 | 27 => 219 | 28 => 220 | 29 => 221 | 30 => 222 | 31 => 224 | n => n, fun | 26 => 9 | 28 => 156 | 24 => 94 | 0 => 0 | 3 => 3 | 37 => 209 | 48 => 231 | 50 => 233 | 4 => 4 | 40 => 224 | 39 => 223 | 45 => 130 | 5 => 5 | 9 => 9 | 51 => 239 | 55 => 243 | 57 => 246 | 58 => 247 | 33 => 112 | n => n, fun | n => n⟩
theorem Tryz.sortedF : Go.Proofs.SlLaysZ.n6 Tryz.prog Tryz.sortedF_ren := {
  mixed := by kernel_rfl
  f6 := ⟨Tryz.f121.name, by decide, Tryz.func121.trans (congrArg some (by kernel_rfl))⟩
  f8 := ⟨Tryz.f157.name, by decide, Tryz.func157.trans (congrArg some (by kernel_rfl))⟩
  f11 := ⟨Tryz.f188.name, by decide, Tryz.func188.trans (congrArg some (by kernel_rfl))⟩
  t0 := Tryz.underlying0
  a0 := Tryz.isAgg0
  z0 := Tryz.sizeOf0
  v0 := Tryz.zeroValue0
  t24 := Tryz.underlying94
  a24 := Tryz.isAgg94
  z24 := Tryz.sizeOf94
  v24 := Tryz.zeroValue94
  t26 := Tryz.underlying9
  a26 := Tryz.isAgg9
  z26 := Tryz.sizeOf9
  v26 := Tryz.zeroValue9
  t28 := Tryz.underlying156
  a28 := Tryz.isAgg156
  z28 := Tryz.sizeOf156
  v28 := Tryz.zeroValue156
  i26 := by kernel_rfl }
def Tryz.sortF_ren : Go.Shelf.Ren := ⟨fun | 6 => 158 | 8 => 190 | 9 => 189 | 19 => 212 | 20 => 213 | 21 => 203 | 22 => 204 | 23 => 205 | 24 => 206 | 25 => 207 | 26 => 208 | 27 => 209 | 28 => 210 | 29 => 211 | 36 => 217 | 31 => 218 | 32 => 219 | 37 => 220 | 38 => 221 | 39 => 222 | 41 => 224 | n => n, fun | 27 => 94 | 29 => 9 | 3 => 3 | 32 => 209 | 26 => 94 | 0 => 0 | 44 => 231 | 46 => 233 | 4 => 4 | 36 => 224 | 35 => 223 | 41 => 130 | 5 => 5 | 9 => 9 | 53 => 239 | 57 => 243 | 63 => 246 | 64 => 247 | n => n, fun | n => n⟩
theorem Tryz.sortF : Go.Proofs.SlLaysM.n6 Tryz.prog Tryz.sortF_ren := {
  mixed := by kernel_rfl
  f6 := ⟨Tryz.f158.name, by decide, Tryz.func158.trans (congrArg some (by kernel_rfl))⟩
  f8 := Tryz.func190.trans (congrArg some (by kernel_rfl))
  f9 := ⟨Tryz.f189.name, by decide, Tryz.func189.trans (congrArg some (by kernel_rfl))⟩
  f19 := Tryz.func212.trans (congrArg some (by kernel_rfl))
  f20 := Tryz.func213.trans (congrArg some (by kernel_rfl))
  f21 := ⟨Tryz.f203.name, by decide, Tryz.func203.trans (congrArg some (by kernel_rfl))⟩
  f22 := ⟨Tryz.f204.name, by decide, Tryz.func204.trans (congrArg some (by kernel_rfl))⟩
  f23 := ⟨Tryz.f205.name, by decide, Tryz.func205.trans (congrArg some (by kernel_rfl))⟩
  f24 := ⟨Tryz.f206.name, by decide, Tryz.func206.trans (congrArg some (by kernel_rfl))⟩
  f25 := ⟨Tryz.f207.name, by decide, Tryz.func207.trans (congrArg some (by kernel_rfl))⟩
  f26 := ⟨Tryz.f208.name, by decide, Tryz.func208.trans (congrArg some (by kernel_rfl))⟩
  f27 := ⟨Tryz.f209.name, by decide, Tryz.func209.trans (congrArg some (by kernel_rfl))⟩
  f28 := ⟨Tryz.f210.name, by decide, Tryz.func210.trans (congrArg some (by kernel_rfl))⟩
  f29 := ⟨Tryz.f211.name, by decide, Tryz.func211.trans (congrArg some (by kernel_rfl))⟩
  f31 := Tryz.func218.trans (congrArg some (by kernel_rfl))
  f32 := Tryz.func219.trans (congrArg some (by kernel_rfl))
  f36 := ⟨Tryz.f217.name, by decide, Tryz.func217.trans (congrArg some (by kernel_rfl))⟩
  f37 := ⟨Tryz.f220.name, by decide, Tryz.func220.trans (congrArg some (by kernel_rfl))⟩
  f38 := ⟨Tryz.f221.name, by decide, Tryz.func221.trans (congrArg some (by kernel_rfl))⟩
  f39 := ⟨Tryz.f222.name, by decide, Tryz.func222.trans (congrArg some (by kernel_rfl))⟩
  f41 := ⟨Tryz.f224.name, by decide, Tryz.func224.trans (congrArg some (by kernel_rfl))⟩
  t0 := Tryz.underlying0
  a0 := Tryz.isAgg0
  z0 := Tryz.sizeOf0
  v0 := Tryz.zeroValue0
  t3 := Tryz.underlying3
  a3 := Tryz.isAgg3
  z3 := Tryz.sizeOf3
  v3 := Tryz.zeroValue3
  t4 := Tryz.underlying4
  a4 := Tryz.isAgg4
  z4 := Tryz.sizeOf4
  v4 := Tryz.zeroValue4
  t5 := Tryz.underlying5
  a5 := Tryz.isAgg5
  z5 := Tryz.sizeOf5
  v5 := Tryz.zeroValue5
  t9 := Tryz.underlying9
  a9 := Tryz.isAgg9
  z9 := Tryz.sizeOf9
  v9 := Tryz.zeroValue9
  t26 := Tryz.underlying94
  a26 := Tryz.isAgg94
  z26 := Tryz.sizeOf94
  v26 := Tryz.zeroValue94
  t27 := Tryz.underlying94
  a27 := Tryz.isAgg94
  z27 := Tryz.sizeOf94
  v27 := Tryz.zeroValue94
  t29 := Tryz.underlying9
  a29 := Tryz.isAgg9
  z29 := Tryz.sizeOf9
  v29 := Tryz.zeroValue9
  t32 := Tryz.underlying209
  a32 := Tryz.isAgg209
  z32 := Tryz.sizeOf209
  v32 := Tryz.zeroValue209
  t35 := Tryz.underlying223
  a35 := Tryz.isAgg223
  z35 := Tryz.sizeOf223
  v35 := Tryz.zeroValue223
  t36 := Tryz.underlying224
  a36 := Tryz.isAgg224
  z36 := Tryz.sizeOf224
  v36 := Tryz.zeroValue224
  t41 := Tryz.underlying130
  a41 := Tryz.isAgg130
  z41 := Tryz.sizeOf130
  v41 := Tryz.zeroValue130
  t44 := Tryz.underlying231
  a44 := Tryz.isAgg231
  z44 := Tryz.sizeOf231
  v44 := Tryz.zeroValue231
  t46 := Tryz.underlying233
  a46 := Tryz.isAgg233
  z46 := Tryz.sizeOf233
  v46 := Tryz.zeroValue233
  t53 := Tryz.underlying239
  a53 := Tryz.isAgg239
  z53 := Tryz.sizeOf239
  v53 := Tryz.zeroValue239
  t57 := Tryz.underlying243
  a57 := Tryz.isAgg243
  z57 := Tryz.sizeOf243
  v57 := Tryz.zeroValue243
  t63 := Tryz.underlying246
  a63 := Tryz.isAgg246
  z63 := Tryz.sizeOf246
  v63 := Tryz.zeroValue246
  t64 := Tryz.underlying247
  a64 := Tryz.isAgg247
  z64 := Tryz.sizeOf247
  v64 := Tryz.zeroValue247 }
end Go.Proofs

namespace Go.Proofs.YtdfadpejddhbkaaGreat
set_option linter.unusedVariables false
open Go.RowKit Go.Maps Go.Sort Go.Shelf

theorem mapsKeysF_any (mb : Option Nat) (W : World) : Calls Tryz.prog 122 #[.map mb] W fun e w' => e = .returned (.func (.func 159) #[] #[.pointer (some ⟨W.heap.size, 0, none⟩)]) ∧ w' = W.alloc (.cells #[.map mb] 81) :=
  (callsIn_wide (n := 5)).1 (AnyZ.keys_in Tryz.keysF Fence.wide 5 trivial rfl mb W)

theorem sortsF (m : Nat) : AnyZ.SortsIn Tryz.prog Tryz.sortedF_ren Fence.wide m :=
  ⟨fun blk off cap ss W hH hblk hsz => callsIn_wide.2 (AnyM.slices_Sort_string Tryz.sortF blk off cap ss W hH hblk hsz),
   fun p cap W => callsIn_wide.2 (AnyM.slices_Sort_string_none Tryz.sortF p cap W)⟩

set_option maxHeartbeats 1000000 in
theorem sortedKeysF_any {H : Type} (b nn : Nat) (D0 : DataW H) (R : Value → Option (DataW H × List MemPlace)) (w : World) (hown : w.ownsMap Tryz.prog 9 R b nn D0) (hbytes : Maps.size D0 ≤ 1099511627776) :
    Calls Tryz.prog 121 #[.func (.func 159) #[] #[.pointer (some ⟨w.heap.size, 0, none⟩)]] (w.alloc (.cells #[.map (some b)] 81)) fun e w' => ∃ (v : Value) (ss : List (List UInt8)), e = .returned v ∧ ss.Perm (strKeys D0) ∧
      w'.ownsRow (w.alloc (.cells #[.map (some b)] 81)).heap.size 9 1 v ss.length ((ss.mergeSort (fun x y => decide (x ≤ y))).map encStr) ∧ (v = .slice none 0 0 ↔ ss = []) ∧ Below (w.alloc (.cells #[.map (some b)] 81)).heap.size (w.alloc (.cells #[.map (some b)] 81)) w' := by
  have hbl := hown.lt
  have hseq : SeqGives Fence.wide 2 Tryz.prog 159 #[.pointer (some ⟨w.heap.size, 0, none⟩)] encStr (fun ss => ss.Perm (strKeys D0)) (Maps.size D0) (w.alloc (.cells #[.map (some b)] 81)) :=
    AnyZ.keys_gives (ρ := Tryz.keysF_ren) { Tryz.keysF with } Fence.wide _ trivial rfl (by omega) w.heap.size b nn D0 _ (by simp) (by simp) (by
      obtain ⟨es, clock, hb, Ft, hs, hD⟩ := hown
      exact ⟨es, clock, (Below.heap_alloc _ _ b hbl).trans hb, Ft, hs, hD⟩)
  exact (callsIn_wide (n := 5)).1 (AnyZ.sorted_in Tryz.sortedF Fence.wide 5 trivial trivial trivial trivial rfl (by omega) (sortsF _) (enters_of Tryz.func158 (by kernel_rfl) rfl) 159 #[.pointer (some ⟨w.heap.size, 0, none⟩)] trivial (enters_of Tryz.func159 (by kernel_rfl) rfl) _ _ (by unfold maxLen; omega) (by omega) _ hseq)
end Go.Proofs.YtdfadpejddhbkaaGreat

namespace Go.Proofs.YtdfadpejddhbkaaGreat
set_option linter.unusedVariables false
open Go.ChangeShapes Go.WideShapes Go.ChangeAt Go.RowKit Go.Maps

/-- what a map by names holds: a name and a value -/
abbrev En := ByteArray × Value
def entV (t : En) : Value := t.2
/-- the map of these -/
def mapF (ts : List En) : DataW Value := ts.foldl (fun D t => D.put (keyL t.1) (.held (entV t))) (.map [])
def ek (ts : List En) (i : Nat) : ByteArray := (ts.getD i (.empty, .bool false)).1
def ev (ts : List En) (i : Nat) : Value := (ts.getD i (.empty, .bool false)).2

theorem mapF_step {ts : List En} {k : Nat} (h : k < ts.length) : mapF (ts.take (k + 1)) = (mapF (ts.take k)).put (keyL (ek ts k)) (.held (ev ts k)) := by
  have h1 : ts.take (k + 1) = ts.take k ++ [(ek ts k, ev ts k)] := by
    have h2 : (ek ts k, ev ts k) = ts[k] := by simp [ek, ev, h]
    rw [h2]
    exact List.take_succ_eq_append_getElem h
  rw [h1, mapF, List.foldl_append]
  rfl

/-- its key, as bytes -/
def klF (t : En) : List UInt8 := t.1.data.toList
/-- in the order of their keys, each once -/
def AscF (us : List En) : Prop := us.Pairwise (fun p q => klF p < klF q)

/-- the map tells these tags, in order -/
structure TellsF (D : DataW Value) (us : List En) : Prop where
  asc : AscF us
  at_ : ∀ t ∈ us, ∀ z, D.atKey (.string (klF t)) z = .held (entV t)
  has : ∀ x, Maps.has D (.string x) = true → ∃ t ∈ us, klF t = x

theorem ascF_ext : ∀ {us vs : List En}, AscF us → AscF vs → (∀ t, t ∈ us ↔ t ∈ vs) → us = vs
  | [], [], _, _, _ => rfl
  | [], v :: vs, _, _, h => absurd ((h v).2 (.head _)) (by simp)
  | u :: us, [], _, _, h => absurd ((h u).1 (.head _)) (by simp)
  | u :: us, v :: vs, hu, hv, h => by
    obtain ⟨hu1, hu2⟩ := List.pairwise_cons.1 hu
    obtain ⟨hv1, hv2⟩ := List.pairwise_cons.1 hv
    have e : u = v := by
      rcases List.mem_cons.1 ((h u).1 (.head _)) with e | h1
      · exact e
      · rcases List.mem_cons.1 ((h v).2 (.head _)) with e | h2
        · exact e.symm
        · exact absurd (List.lt_trans (hv1 u h1) (hu1 v h2)) (List.lt_irrefl _)
    subst e
    congr 1
    refine ascF_ext hu2 hv2 fun t => ⟨fun ht => ?_, fun ht => ?_⟩
    · rcases List.mem_cons.1 ((h t).1 (.tail _ ht)) with e | h1
      · subst e
        exact absurd (hu1 t ht) (List.lt_irrefl _)
      · exact h1
    · rcases List.mem_cons.1 ((h t).2 (.tail _ ht)) with e | h1
      · subst e
        exact absurd (hv1 t ht) (List.lt_irrefl _)
      · exact h1

/-- a tag put among tags, as the model puts it -/
def putF : List En → En → List En
  | [], t => [t]
  | u :: us, t => if klF t ≤ klF u then t :: (u :: us).filter (fun s => decide (klF s ≠ klF t)) else u :: putF us t

theorem mem_putF (s t : En) : ∀ us : List En, s ∈ putF us t ↔ s = t ∨ (s ∈ us ∧ klF s ≠ klF t)
  | [] => by simp [putF]
  | u :: us => by
    unfold putF
    split
    · simp only [List.mem_cons, List.mem_filter, decide_eq_true_eq]
    · rename_i h
      have hlt : klF u < klF t := Classical.byContradiction h
      rw [List.mem_cons, mem_putF s t us, List.mem_cons]
      constructor
      · rintro (rfl | rfl | ⟨h1, h2⟩)
        · exact .inr ⟨.inl rfl, fun e => List.lt_irrefl _ (e ▸ hlt)⟩
        · exact .inl rfl
        · exact .inr ⟨.inr h1, h2⟩
      · rintro (rfl | ⟨rfl | h1, h2⟩)
        · exact .inr (.inl rfl)
        · exact .inl rfl
        · exact .inr (.inr ⟨h1, h2⟩)

theorem asc_putF (t : En) : ∀ {us : List En}, AscF us → AscF (putF us t)
  | [], _ => List.pairwise_singleton _ _
  | u :: us, h => by
    obtain ⟨h1, h2⟩ := List.pairwise_cons.1 h
    unfold putF
    split
    · rename_i hle
      refine List.pairwise_cons.2 ⟨fun s hs => ?_, h.filter _⟩
      simp only [List.mem_filter, decide_eq_true_eq] at hs
      refine lt_of_le_ne ?_ hs.2
      rcases List.mem_cons.1 hs.1 with rfl | hm
      · exact hle
      · exact List.le_trans hle (List.le_of_lt (h1 s hm))
    · rename_i hle
      have hlt : klF u < klF t := Classical.byContradiction hle
      refine List.pairwise_cons.2 ⟨fun s hs => ?_, asc_putF t h2⟩
      rcases (mem_putF s t us).1 hs with rfl | ⟨hm, _⟩
      · exact hlt
      · exact h1 s hm

theorem key_neF {x : List UInt8} {t : En} (h : x ≠ klF t) : Lit.string x ≠ keyL t.1 := fun e => h (Lit.string.inj e)

theorem TellsF.put {D : DataW Value} {us : List En} (h : TellsF D us) (hD : IsMap D) (t : En) : TellsF (D.put (keyL t.1) (.held (entV t))) (putF us t) := by
  refine ⟨asc_putF t h.asc, fun s hs z => ?_, fun x hx => ?_⟩
  · rcases (mem_putF s t us).1 hs with rfl | ⟨hm, hne⟩
    · exact atKey_put_same (k := keyL s.1) hD (show WideAt.IsKeyLit (keyL s.1) from trivial) _ _
    · rw [atKey_put_other (key_neF hne)]
      exact h.at_ s hm z
  · by_cases e : x = klF t
    · exact ⟨t, (mem_putF t t us).2 (.inl rfl), e.symm⟩
    · rw [has_put_other (key_neF e)] at hx
      obtain ⟨s, hs, hk⟩ := h.has x hx
      exact ⟨s, (mem_putF s t us).2 (.inr ⟨hs, by rw [hk]; exact e⟩), hk⟩

/-- tags without a key -/
def cutF (us : List En) (x : List UInt8) : List En := us.filter (fun s => decide (klF s ≠ x))

theorem TellsF.cut {D : DataW Value} {us : List En} (h : TellsF D us) (x : List UInt8) : TellsF (D.del (.string x)) (cutF us x) := by
  refine ⟨h.asc.filter _, fun s hs z => ?_, fun y hy => ?_⟩
  · simp only [cutF, List.mem_filter, decide_eq_true_eq] at hs
    rw [atKey_del_other (fun e => hs.2 (Lit.string.inj e))]
    exact h.at_ s hs.1 z
  · by_cases e : y = x
    · subst e
      rw [has_del_same] at hy
      cases hy
    · rw [has_del_other (fun e' => e (Lit.string.inj e'))] at hy
      obtain ⟨s, hs, hk⟩ := h.has y hy
      exact ⟨s, by simp only [cutF, List.mem_filter, decide_eq_true_eq]; exact ⟨hs, by rw [hk]; exact e⟩, hk⟩

theorem tellsF_fold : ∀ (ts : List En) (D : DataW Value) (us : List En), IsMap D → TellsF D us →
    IsMap (ts.foldl (fun D t => D.put (keyL t.1) (.held (entV t))) D) ∧ TellsF (ts.foldl (fun D t => D.put (keyL t.1) (.held (entV t))) D) (ts.foldl putF us)
  | [], D, us, h1, h2 => ⟨h1, h2⟩
  | t :: r, D, us, h1, h2 => tellsF_fold r _ _ (h1.put _ _) (h2.put h1 t)

theorem tellsF_none : TellsF (.map []) [] := ⟨List.Pairwise.nil, fun t ht => by simp at ht, fun x hx => by simp [Maps.has] at hx⟩

theorem mapF_isMap (ts : List En) : IsMap (mapF ts) := (tellsF_fold ts _ _ isMap_empty tellsF_none).1
/-- what the map of tags tells -/
def toldF (ts : List En) : List En := ts.foldl putF []
theorem tellsF_mapF (ts : List En) : TellsF (mapF ts) (toldF ts) := (tellsF_fold ts _ _ isMap_empty tellsF_none).2

theorem putF_last {us : List En} {t : En} (h : ∀ u ∈ us, klF u < klF t) : putF us t = us ++ [t] := by
  induction us with
  | nil => rfl
  | cons u us ih =>
    have h1 : ¬ klF t ≤ klF u := fun h2 => h2 (h u (.head _))
    unfold putF
    rw [if_neg h1, ih fun s hs => h s (.tail _ hs)]
    rfl

theorem foldF_asc : ∀ (ts us : List En), AscF (us ++ ts) → ts.foldl putF us = us ++ ts
  | [], us, _ => by simp
  | t :: r, us, h => by
    rw [List.foldl_cons, putF_last fun u hu => (List.pairwise_append.1 h).2.2 u hu t (.head _), foldF_asc r (us ++ [t]) (by simpa using h)]
    simp

/-- tags that are in order are toldF as they are -/
theorem toldF_asc {ts : List En} (h : AscF ts) : toldF ts = ts := by simpa [toldF] using foldF_asc ts [] (by simpa using h)
/-- what is toldF is in order -/
theorem ascF_told (ts : List En) : AscF (toldF ts) := (tellsF_mapF ts).asc

theorem toldF_len (ts : List En) : (toldF ts).length ≤ ts.length := by
  have put : ∀ (t : En) (us : List En), (putF us t).length ≤ us.length + 1 := by
    intro t us
    induction us with
    | nil => simp [putF]
    | cons u us ih =>
      unfold putF
      split
      · have := List.length_filter_le (fun s => decide (klF s ≠ klF t)) (u :: us)
        rw [List.length_cons]
        omega
      · simp only [List.length_cons]
        omega
  have all : ∀ (ts us : List En), (ts.foldl putF us).length ≤ us.length + ts.length := by
    intro ts
    induction ts with
    | nil => simp
    | cons t r ih =>
      intro us
      rw [List.foldl_cons, List.length_cons]
      have := ih (putF us t)
      have := put t us
      omega
  simpa [toldF] using all ts []

theorem toldF_mem {ts : List En} {s : En} (h : s ∈ toldF ts) : s ∈ ts := by
  have all : ∀ (ts us : List En), s ∈ ts.foldl putF us → s ∈ us ∨ s ∈ ts := by
    intro ts
    induction ts with
    | nil => exact fun us h => .inl h
    | cons t r ih =>
      intro us h
      rcases ih _ h with h1 | h1
      · rcases (mem_putF s t us).1 h1 with rfl | ⟨h2, _⟩
        · exact .inr (.head _)
        · exact .inl h2
      · exact .inr (.tail _ h1)
  rcases all ts [] h with h1 | h1
  · simp at h1
  · exact h1


end Go.Proofs.YtdfadpejddhbkaaGreat

namespace Go.Proofs.YtdfadpejddhbkaaGreat
set_option linter.unusedVariables false
open Go.ChangeShapes Go.WideShapes Go.ChangeAt Go.RowKit Go.Maps Go.Sort Go.Deep

/-- a value is a thing that lies in memory -/
def FeatV (w : World) (v : Value) (f : Ft) : Prop := ∃ pa pc ta tc, v = .agg #[.string f.1, .int .i64 f.2.1, .slice pa f.2.2.1.length pc, .slice ta f.2.2.2.length tc] ∧ PtsAt w pa f.2.2.1 ∧ TagsAt w ta f.2.2.2

theorem FeatV.below {w w' : World} {v : Value} {f : Ft} (h : FeatV w v f) (hb : Below w.heap.size w w') : FeatV w' v f := by
  obtain ⟨pa, pc, ta, tc, h1, h2, h3⟩ := h
  exact ⟨pa, pc, ta, tc, h1, h2.below hb, h3.below hb⟩

/-- these are the things, each with its name -/
def Ents (w : World) (es : List En) (fs : List Ft) : Prop := es.length = fs.length ∧ ∀ i, i < fs.length → ek es i = fid fs i ∧ FeatV w (ev es i) (fg fs i)

theorem Ents.below {w w' : World} {es : List En} {fs : List Ft} (h : Ents w es fs) (hb : Below w.heap.size w w') : Ents w' es fs := ⟨h.1, fun i hi => ⟨(h.2 i hi).1, (h.2 i hi).2.below hb⟩⟩

set_option maxRecDepth 100000 in
set_option maxHeartbeats 2000000 in
theorem featsByName_any (a : Option Addr) (cap : Nat) (fs : List Ft) (w : World) (hp : FeatsAt w a fs) (hl : fs.length ≤ 1048576) (ht : FeatsLen fs 1048576) :
    Calls Tryz.prog 56 #[.slice a fs.length cap] w fun e w' => e = .returned (.map (some w.heap.size)) ∧ (∃ es, Ents w es fs ∧ w'.ownsMap Tryz.prog 9 heldElem w.heap.size fs.length (mapF es)) ∧ Below w.heap.size w w' := by
  have each : ∀ i, i < fs.length → ∃ q : Option Addr × Nat × Option Addr × Nat, ∃ b off, a = some ⟨b, off, none⟩ ∧ b < w.heap.size ∧
    w.cell? ⟨b, off + i * 4, none⟩ = some (.string (fid fs i)) ∧ w.cell? ⟨b, off + i * 4 + 1, none⟩ = some (.int .i64 (fkd fs i)) ∧
    w.cell? ⟨b, off + i * 4 + 2, none⟩ = some (.slice q.1 (fps fs i).length q.2.1) ∧ w.cell? ⟨b, off + i * 4 + 3, none⟩ = some (.slice q.2.2.1 (fts fs i).length q.2.2.2) ∧
    PtsAt w q.1 (fps fs i) ∧ TagsAt w q.2.2.1 (fts fs i) := by
    intro i hi
    obtain ⟨b, off, pa, pc, ta, tc, h1, h2, h3, h4, h5, h6, h7, h8⟩ := hp i hi
    exact ⟨(pa, pc, ta, tc), b, off, h1, h2, h3, h4, h5, h6, h7, h8⟩
  obtain ⟨q, hq⟩ := choose_lt each
  clear each hp
  have HP := Lib.hid hq
  have HL := Lib.hid ht
  clear hq ht
  generalize hes : (List.range fs.length).map (fun i => ((fid fs i, .agg #[.string (fid fs i), .int .i64 (fkd fs i), .slice (q i).1 (fps fs i).length (q i).2.1, .slice (q i).2.2.1 (fts fs i).length (q i).2.2.2]) : En)) = es
  have hel : es.length = fs.length := by rw [← hes]; simp
  have hek : ∀ i, i < fs.length → ek es i = fid fs i ∧ ev es i = .agg #[.string (fid fs i), .int .i64 (fkd fs i), .slice (q i).1 (fps fs i).length (q i).2.1, .slice (q i).2.2.1 (fts fs i).length (q i).2.2.2] := by
    intro i hi
    rw [← hes]
    simp [ek, ev, hi]
  have HE : Hid (Ents w es fs) := ⟨hel, fun i hi => ⟨(hek i hi).1, by
    obtain ⟨b, off, _, _, _, _, _, _, h7, h8⟩ := HP.out i hi
    exact ⟨_, _, _, _, (hek i hi).2, h7, h8⟩⟩⟩
  have HK := Lib.hid hek
  clear hek hes
  have hmm := @run_makeMap Tryz.prog
  go_enter Tryz.func56, Tryz.ntmps56
  go_wp2
  clear hmm
  go_loopw [5, 9] (fun _ i wr => ∃ k : Nat, k ≤ fs.length ∧ i = .int .i64 k ∧ wr.ownsMap Tryz.prog 9 heldElem w.heap.size k (mapF (es.take k)) ∧ Below w.heap.size w wr) (fun _ i _ => fs.length - (intOf i).toNat)
  case atStart => exact ⟨0, Nat.zero_le _, rfl, World.ownsMap_made _ _ _ _, (Below.refl _ _).alloc (Nat.le_refl _) _⟩
  case round =>
    obtain ⟨k, hk, rfl, hown, hbel⟩ := hrel
    have HB := Lib.hid hbel
    have hsz := hbel.size
    by_cases hlt : k < fs.length
    · obtain ⟨b, off, rfl, hb, hc1, hc2, hc3, hc4, _, _⟩ := HP.out k hlt
      rw [← hbel.cell (p := ⟨b, _, none⟩) hb] at hc1 hc2 hc3 hc4
      clear hbel
      have hkey : keyOf Tryz.prog 9 (.string (fid fs k)) = some (keyL (fid fs k)) := Go.WideMaps.keyOf_string_mk Tryz.underlying9 (by have := (HL.out k hlt).1; unfold maxLen; omega)
      go_wp2_with (at_mapUpdate; refine wpList_mapUpdate_own _ rfl _ _ _ 81 rfl 9 33 keyT Tryz.underlying81 _ w.heap.size k _ rfl (hown.alloc _) (by unfold maxLen; omega) _ _ _ rfl rfl hkey (.held (.agg #[.string (fid fs k), .int .i64 (fkd fs k), .slice (q k).1 (fps fs k).length (q k).2.1, .slice (q k).2.2.1 (fts fs k).length (q k).2.2.2])) [] rfl ?_; intro w1 hown1 hgrow1)
      rw [← (HK.out k hlt).2, ← (HK.out k hlt).1, ← mapF_step (by omega)] at hown1
      have HO := Lib.hid hown1
      have HG := Lib.hid hgrow1
      clear hown1 hgrow1 hown
      go_roundw
      case rel => exact ⟨k + 1, by omega, by go_num, HO.out, (HB.out.alloc hsz _).grown HG.out (by simp; omega) (fun j hj => by cases hj; exact Nat.le_refl _)⟩
      case measure => simp [intOf]; omega
    · obtain rfl : k = fs.length := by omega
      have HO := Lib.hid hown
      clear hown hbel
      go_wp2
      go_ret
      exact ⟨rfl, ⟨es, HE.out, by have := HO.out; rwa [List.take_of_length_le (by omega)] at this⟩, HB.out⟩

/-- the names of a map that tells these, sorted -/
theorem sorted_toldF {w : World} {b n : Nat} {D : DataW Value} {us : List En} {ss : List (List UInt8)} (hown : w.ownsMap Tryz.prog 9 heldElem b n D) (ht : TellsF D us) (hp : ss.Perm (strKeys D)) :
    ss.mergeSort (fun x y => decide (x ≤ y)) = us.map klF ∧ ss.length = us.length := by
  have hnd : (us.map klF).Nodup := List.pairwise_map.2 (ht.asc.imp fun {p q} (h : klF p < klF q) (e : klF p = klF q) => List.lt_irrefl _ (e ▸ h))
  have hq : (us.map klF).Perm (strKeys D) := by
    obtain ⟨es, hD, hpw, _⟩ := hown.entries keyT
    obtain ⟨es', hD', hko⟩ := hown.keysOf
    obtain rfl : es = es' := by rw [hD] at hD'; simpa using hD'
    subst hD
    refine perm_strKeys hpw (fun p hp => by obtain ⟨v, hv⟩ := hko p hp; obtain ⟨x, _, hx, _⟩ := Maps.keyOf_str Tryz.underlying9 hv; exact ⟨x, hx⟩) hnd (fun x => ?_)
    rw [List.mem_map]
    constructor
    · rintro ⟨t, h1, rfl⟩
      exact has_true_of_atKey (ht.at_ t h1)
    · intro hx
      obtain ⟨t, h1, h2⟩ := ht.has x hx
      exact ⟨t, h1, h2⟩
  have hpm : ss.Perm (us.map klF) := hp.trans hq.symm
  refine ⟨?_, by simpa using hpm.length_eq⟩
  show ss.mergeSort leB = _
  rw [mergeSort_of_perm hpm]
  exact List.mergeSort_of_pairwise ((List.pairwise_map.2 ht.asc).imp fun h => decide_eq_true (List.le_of_lt h))

/-- a text of a list -/
def sx (xs : List ByteArray) (i : Nat) : ByteArray := xs.getD i .empty
/-- a slice that reads as texts -/
def StrsAt (w : World) (a : Option Addr) (xs : List ByteArray) : Prop :=
  ∀ i, i < xs.length → ∃ b off, a = some ⟨b, off, none⟩ ∧ b < w.heap.size ∧ w.cell? ⟨b, off + i, none⟩ = some (.string (sx xs i))

theorem StrsAt.below {w w' : World} {a : Option Addr} {xs : List ByteArray} (h : StrsAt w a xs) (hb : Below w.heap.size w w') : StrsAt w' a xs := by
  intro i hi
  obtain ⟨b, off, rfl, hlt, h1⟩ := h i hi
  exact ⟨b, off, rfl, Nat.lt_of_lt_of_le hlt hb.size, by rw [hb.cell (p := ⟨b, _, none⟩) hlt]; exact h1⟩

theorem StrsAt.nil (w : World) (a : Option Addr) : StrsAt w a [] := fun _ h => absurd h (Nat.not_lt_zero _)

/-- an owned row reads as its texts -/
theorem owned_strs {w : World} {base : Nat} {e : TypeId} {v : Value} {n : Nat} {xs : List ByteArray} (h : w.ownsRow base e 1 v n (xs.map .string)) (hn : n = xs.length) :
    ∃ a cap, v = .slice a xs.length cap ∧ StrsAt w a xs ∧ ∀ x, blk a = some x → base ≤ x ∧ x < w.heap.size := by
  subst hn
  obtain ⟨h1, ⟨rfl, h2⟩ | ⟨g, cap, cur, rfl, hb, hg, hc, hm, hs, hx⟩⟩ := h
  · have : xs.length = 0 := by omega
    exact ⟨none, 0, by rw [this], fun i hi => by omega, fun x h => by simp [blk] at h⟩
  · refine ⟨some ⟨g, 0, none⟩, cap, rfl, fun i hi => ⟨g, 0, rfl, (Array.getElem?_eq_some_iff.1 hg).1, ?_⟩, fun x h => by obtain rfl : g = x := (by simpa [blk] using h); exact ⟨hb, (Array.getElem?_eq_some_iff.1 hg).1⟩⟩
    have hv : (xs.map Value.string)[i]? = some (.string (sx xs i)) := by
      simp [hi, sx]
    rw [← hx, List.getElem?_take, if_pos (by omega)] at hv
    simp only [World.cell?, hg, Option.isSome_none, Bool.false_eq_true, if_false, Nat.zero_add]
    simpa using hv

theorem names_enc (us : List En) : (us.map klF).map encStr = (us.map (·.1)).map Value.string := by
  rw [List.map_map, List.map_map]
  exact List.map_congr_left fun u _ => by simp [encStr, klF]

set_option maxRecDepth 100000 in
set_option maxHeartbeats 2000000 in
/-- the names, in order, in a row of its own -/
theorem namesInOrder_any (b n : Nat) (D : DataW Value) (us : List En) (w : World) (hown : w.ownsMap Tryz.prog 9 heldElem b n D) (ht : TellsF D us) (hn : n ≤ 1048577) :
    Calls Tryz.prog 69 #[.map (some b)] w fun e w' => (∃ v, e = .returned v ∧ w'.ownsRow w.heap.size 9 1 v us.length ((us.map (·.1)).map Value.string)) ∧ us.length ≤ n ∧ Below w.heap.size w w' := by
  have HO := Lib.hid hown
  have HT := Lib.hid ht
  have hms := hown.size_le
  have SK := Lib.hid (sortedKeysF_any b n D heldElem w hown (by omega))
  clear hown ht
  go_enter Tryz.func69, Tryz.ntmps69
  go_wp2_with fail
  refine (mapsKeysF_any _ _).mono ?_
  rintro e w1 ⟨rfl, rfl⟩
  go_wp2_with fail
  refine SK.out.mono ?_
  rintro e w2 ⟨v, ss, rfl, hp, hrow, -, hb2⟩
  obtain ⟨hs1, hs2⟩ := sorted_toldF HO.out HT.out hp
  rw [hs1, names_enc, hs2] at hrow
  have hlen : us.length ≤ n := by
    have h1 := hp.length_eq
    have h2 : (strKeys D).length = Maps.size D := by
      obtain ⟨es, rfl⟩ := HO.out.isMap
      simp [strKeys, Maps.size]
    omega
  have B2 : Hid (Below w.heap.size w w2) := ((Below.refl _ _).alloc (Nat.le_refl _) _).trans (hb2.mono (by simp))
  have HR : Hid (w2.ownsRow w.heap.size 9 1 v us.length ((us.map (·.1)).map Value.string)) := ownsRow_base hrow (by simp)
  clear hrow hb2 hs1 hs2 hp SK HO
  go_wp2
  go_ret
  exact ⟨⟨v, rfl, HR.out⟩, hlen, B2.out⟩

end Go.Proofs.YtdfadpejddhbkaaGreat
