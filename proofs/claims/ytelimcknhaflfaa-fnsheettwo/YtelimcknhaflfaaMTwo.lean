/- Proved here: the model's thing of a name is a copy of the first of that name, in memory of its own; lists of at most 1,048,576 things, points and tags, texts of at most 1,048,576 bytes. Proved here: the program's thing of a name, by a map of names, is a copy of the first of that name, in memory of its own; lists of at most 1,048,576 things, points and tags, texts of at most 1,048,576 bytes. Proved here: a list of things that is built by appending copies, its parts apart from each other and from the row; no condition. Proved here: the things of a map by names, told in the order of their names, each copied into memory of its own; a map of at most 1,048,577 things. Proved here: the program's map without a name holds copies of the other things, in memory of its own; lists of at most 1,048,576 things, points and tags, texts of at most 1,048,576 bytes. Proved here: the model's list without a name, and its copy of a list, read as they should; lists of at most 1,048,576 things, points and tags. Proved here: a list that a function made in memory of its own is read, marked, and asked for its marks; lists of at most 1,048,576 things, points and tags. Proved here: what a list of things is with a thing put in, as the model goes through it and as a map by names tells it; a thing appended to a row of things; no condition. Proved here: the program's map with a thing holds copies of the things, in memory of its own; lists of at most 1,048,576 things, points and tags, texts of at most 1,048,576 bytes. Proved here: two things put on a map are there whichever is put first; no condition. Proved here: the model's map without a name holds copies of the other things; lists of at most 1,048,576 things, points and tags, texts of at most 1,048,576 bytes. Proved here: the model's map with a thing holds copies of the things; lists of at most 1,048,576 things, points and tags, texts of at most 1,048,576 bytes. Proved here: the law FnSheetTwo answers true at every pair of codes, and leaves them as they were; no condition. -/
import Derived.Test.YtelimcknhaflfaaWFindF
import Derived.Test.YtelimcknhaflfaaWCopyN
import Derived.Test.YtelimcknhaflfaaWMarkList
import Derived.Test.YtelimcknhaflfaaWSheetOkI
import Derived.Test.YtelimcknhaflfaaWFeatCopy
import Derived.Test.YtelimcknhaflfaaWMarkListW
import Derived.Deep.RegionHeld3
import Derived.Deep.DeepCutAuto
import Derived.Test.YtelimcknhaflfaaMDrawP
import Derived.Test.YtelimcknhaflfaaWSheetSameI
import Derived.Test.YtelimcknhaflfaaWArg
import Derived.BigQuiet
namespace Go.Proofs.Ytelimcknhaflfaa
set_option linter.unusedVariables false
open Go.ChangeShapes Go.WideShapes Go.ChangeAt Go.RowKit Go.Deep

/-- is there such a thing -/
def getHas (fs : List Ft) (id : ByteArray) : Bool := sheetOk fs && decide (firstF fs id < fs.length)
/-- the thing of a name -/
def getFt (fs : List Ft) (id : ByteArray) : Ft := if getHas fs id then fg fs (firstF fs id) else (⟨#[]⟩, 0, [], [])

/-- a value is a thing that lies between these blocks -/
def Got (lo hi : Nat) (w : World) (v : Value) (f : Ft) : Prop :=
  ∃ ax cx ay cy, v = .agg #[.string f.1, .int .i64 f.2.1, .slice ax f.2.2.1.length cx, .slice ay f.2.2.2.length cy] ∧ PtsAt w ax f.2.2.1 ∧ TagsAt w ay f.2.2.2 ∧ (f.2.2.1.length = 0 ∨ ∀ x, blk ax = some x → lo ≤ x ∧ x < hi) ∧ (f.2.2.2.length = 0 ∨ ∀ x, blk ay = some x → lo ≤ x ∧ x < hi)

theorem Got.turned {lo hi : Nat} {w w' : World} {v : Value} {f : Ft} {S : Nat → Prop} (h : Got lo hi w v f) (ht : Turned w w' S) (hS : ∀ x, lo ≤ x → x < hi → ¬ S x) : Got lo hi w' v f := by
  obtain ⟨ax, cx, ay, cy, h1, h2, h3, h4, h5⟩ := h
  refine ⟨ax, cx, ay, cy, h1, ?_, ?_, h4, h5⟩
  · rcases h4 with h | h
    · exact fun i hi => absurd hi (by omega)
    · exact h2.turned ht fun x hx => hS x (h x hx).1 (h x hx).2
  · rcases h5 with h | h
    · exact fun i hi => absurd hi (by omega)
    · exact h3.turned ht fun x hx => hS x (h x hx).1 (h x hx).2

theorem Got.below {lo hi : Nat} {w w' : World} {v : Value} {f : Ft} (h : Got lo hi w v f) (hb : Below w.heap.size w w') : Got lo hi w' v f := h.turned (S := fun _ => False) (Turned.of_below hb) fun _ _ _ h => h

theorem Got.nothing (lo hi : Nat) (w : World) : Got lo hi w (.agg #[.string ⟨#[]⟩, .int .i64 0, .slice none 0 0, .slice none 0 0]) (⟨#[]⟩, 0, [], []) :=
  ⟨none, 0, none, 0, rfl, PtsAt.nil _ _, TagsAt.nil _ _, .inl rfl, .inl rfl⟩

theorem good_ok {fs : List Ft} (h : sheetOk fs = true) {i : Nat} (hi : i < fs.length) : ftOk fs i = true := by
  simp [sheetOk] at h
  have := featsGood_at h.1 hi
  simp [featGood] at this
  exact this.1

theorem ftOk_pts {fs : List Ft} {i : Nat} (h : ftOk fs i = true) : 0 < (fps fs i).length := by
  unfold ftOk featOk at h
  simp only [Bool.and_eq_true] at h
  have h2 := h.1.2
  unfold shapeOk at h2
  simp only [Bool.and_eq_true] at h2
  have h3 := h2.1.2
  unfold kindHolds at h3
  split at h3
  · simp at h3; omega
  · split at h3
    · simp at h3; omega
    · split at h3
      · simp at h3; omega
      · simp at h3

theorem Got.mono {lo hi lo' hi' : Nat} {w : World} {v : Value} {f : Ft} (h : Got lo hi w v f) (h1 : lo' ≤ lo) (h2 : hi ≤ hi') : Got lo' hi' w v f := by
  obtain ⟨ax, cx, ay, cy, q1, q2, q3, q4, q5⟩ := h
  exact ⟨ax, cx, ay, cy, q1, q2, q3, q4.imp id fun h x hx => ⟨Nat.le_trans h1 (h x hx).1, Nat.lt_of_lt_of_le (h x hx).2 h2⟩, q5.imp id fun h x hx => ⟨Nat.le_trans h1 (h x hx).1, Nat.lt_of_lt_of_le (h x hx).2 h2⟩⟩

/-- four stores into a box -/
theorem turned4 (w : World) (r : Nat) (x0 x1 x2 x3 : Value) : Turned w ((((w.setCell ⟨r, 0, none⟩ x0).setCell ⟨r, 1, none⟩ x1).setCell ⟨r, 2, none⟩ x2).setCell ⟨r, 3, none⟩ x3) (fun x => x = r) :=
  (((Turned.of_set (S := fun x => x = r) w _ _ rfl).trans (Turned.of_set _ _ _ rfl)).trans (Turned.of_set _ _ _ rfl)).trans (Turned.of_set _ _ _ rfl)

theorem FeatAns.got {w w' : World} {id : ByteArray} {k : Int} {ps : List (Int × Int)} {ts : List Tg} {v : Value} (h : FeatAns w id k ps ts v w') : Got w.heap.size w'.heap.size w' v (id, k, ps, ts) ∧ Below w.heap.size w w' := by
  obtain ⟨a, cap, c, ca, h1, h2, _, h4, h5, _, h7, _, h9⟩ := h
  exact ⟨⟨a, cap, c, ca, h1, h2, h5, .inr h4, .inr h7⟩, h9⟩

set_option maxHeartbeats 2000000 in
theorem l2Copy_got (id : ByteArray) (k : Int) (a : Option Addr) (cap : Nat) (ps : List (Int × Int)) (c : Option Addr) (ca : Nat) (ts : List Tg) (w : World) (hp : PtsAt w a ps) (ht : TagsAt w c ts) (hl : ps.length ≤ 1048576) (h0 : 0 < ps.length) (hm : ts.length ≤ 1048576) :
    Calls Try.prog 47 #[.agg #[.string id, .int .i64 k, .slice a ps.length cap, .slice c ts.length ca]] w fun e w' => (∃ v, e = .returned v ∧ Got w.heap.size w'.heap.size w' v (id, k, ps, ts)) ∧ Below w.heap.size w w' := by
  obtain ⟨b, off, rfl, _⟩ := hp 0 h0
  by_cases h1 : 0 < ts.length
  · obtain ⟨b2, off2, rfl, _⟩ := ht 0 h1
    refine (l2Copy_any id k b off cap ps b2 off2 ca ts w hp ht hl h0 hm h1).mono ?_
    rintro e w' ⟨v, rfl, h⟩
    exact ⟨⟨v, rfl, h.got.1⟩, h.got.2⟩
  · obtain rfl : ts = [] := List.eq_nil_of_length_eq_zero (by omega)
    refine (l2Copy_n0 id k b off cap ps c ca w hp hl h0).mono ?_
    rintro e w' ⟨ax, cx, ay, cy, rfl, ⟨q1, _, q3⟩, hb⟩
    exact ⟨⟨_, rfl, ax, cx, ay, cy, rfl, q1, TagsAt.nil _ _, .inr q3, .inl rfl⟩, hb⟩

end Go.Proofs.Ytelimcknhaflfaa

namespace Go.Proofs.Ytelimcknhaflfaa
set_option linter.unusedVariables false
open Go.ChangeShapes Go.WideShapes Go.ChangeAt Go.RowKit Go.Deep Go.Maps

theorem ent_get {w : World} {es : List En} {fs : List Ft} (h : Ents w es fs) {i : Nat} (hi : i < fs.length) : es[i]'(by rw [h.1]; exact hi) = (fid fs i, ev es i) := by
  have h1 := (h.2 i hi).1
  have hi' : i < es.length := by rw [h.1]; exact hi
  rw [← h1]
  simp [ek, ev, hi']

theorem nothing_feat {w w1 : World} {r : Nat} {x0 x1 x2 x3 : Value} (hw : Below w.heap.size w w1) (hr : w.heap.size ≤ r) :
    FeatAns w ⟨#[]⟩ 0 [] [] (.agg #[.string ⟨#[]⟩, .int .i64 0, .slice none 0 0, .slice none 0 0]) ((((w1.setCell ⟨r, 0, none⟩ x0).setCell ⟨r, 1, none⟩ x1).setCell ⟨r, 2, none⟩ x2).setCell ⟨r, 3, none⟩ x3) :=
  ⟨none, 0, none, 0, rfl, PtsAt.nil _ _, fun i hi => absurd hi (Nat.not_lt_zero _), fun x h => by simp [blk] at h, TagsAt.nil _ _, fun i hi => absurd hi (Nat.not_lt_zero _), fun x h => by simp [blk] at h, fun x h => by simp [blk] at h, (((hw.setCell hr _).setCell hr _).setCell hr _).setCell hr _⟩

theorem ok_tells {w0 : World} {es : List En} {fs : List Ft} (he : Ents w0 es fs) (hok : sheetOk fs = true) : TellsF (mapF es) es := by
  have h := tellsF_mapF es
  rw [toldF_asc (ascF_of_good he (by simp [sheetOk] at hok; exact hok.1))] at h
  exact h

/-- a look-up of a name that is there -/
theorem look_hit {w0 w : World} {b n : Nat} {es : List En} {fs : List Ft} (hown : w.ownsMap Try.prog 9 heldElem b n (mapF es)) (he : Ents w0 es fs) (hok : sheetOk fs = true) {i : Nat} (hi : i < fs.length) (hl : (fid fs i).size ≤ maxLen) :
    (Instr.lookup 49 (.map (some b)) (.string (fid fs i)) true).run Try.prog w = .ok (.tuple #[ev es i, .bool true]) w := by
  have hz : (zeroValue 29).run Try.prog w = .ok (.agg #[.string .empty, .int .i64 0, .slice none 0 0, .slice none 0 0]) w := by kernel_rfl
  obtain ⟨v, ps, hrun, hv⟩ := hown.look_ok keyT Try.underlying49 hz (zd := .held (.agg #[.string .empty, .int .i64 0, .slice none 0 0, .slice none 0 0])) (zp := []) rfl (Go.WideMaps.keyOf_string_mk Try.underlying9 hl)
  simp only [heldElem, Option.some.injEq, Prod.mk.injEq] at hv
  have hm : ((fid fs i, ev es i) : En) ∈ es := by rw [← ent_get he hi]; exact List.getElem_mem _
  have h1 := (ok_tells he hok).at_ _ hm
  have hh : Maps.has (mapF es) (.string (fid fs i).data.toList) = true := has_true_of_atKey h1
  have h3 := hv.1
  rw [show (mapF es).atKey (.string (fid fs i).data.toList) _ = .held (ev es i) from h1 _] at h3
  rw [hrun, DataW.held.inj h3, hh]

/-- a look-up of a name that is not there -/
theorem look_miss {w0 w : World} {b n : Nat} {es : List En} {fs : List Ft} {id : ByteArray} (hown : w.ownsMap Try.prog 9 heldElem b n (mapF es)) (he : Ents w0 es fs) (hno : ∀ j, j < fs.length → fid fs j ≠ id) (hl : id.size ≤ maxLen) :
    (Instr.lookup 49 (.map (some b)) (.string id) true).run Try.prog w = .ok (.tuple #[.agg #[.string .empty, .int .i64 0, .slice none 0 0, .slice none 0 0], .bool false]) w := by
  have hz : (zeroValue 29).run Try.prog w = .ok (.agg #[.string .empty, .int .i64 0, .slice none 0 0, .slice none 0 0]) w := by kernel_rfl
  obtain ⟨v, ps, hrun, hv⟩ := hown.look_ok keyT Try.underlying49 hz (zd := .held (.agg #[.string .empty, .int .i64 0, .slice none 0 0, .slice none 0 0])) (zp := []) rfl (Go.WideMaps.keyOf_string_mk Try.underlying9 hl)
  simp only [heldElem, Option.some.injEq, Prod.mk.injEq] at hv
  have hn : Maps.has (mapF es) (.string id.data.toList) = false := by
    cases hh : Maps.has (mapF es) (.string id.data.toList)
    · rfl
    · obtain ⟨t, h1, h2⟩ := (tellsF_mapF es).has _ hh
      obtain ⟨j, hj, e⟩ := List.getElem_of_mem (toldF_mem h1)
      have hj' : j < fs.length := by rw [← he.1]; exact hj
      rw [ent_get he hj'] at e
      refine absurd ?_ (hno j hj')
      rw [← toList_inj, ByteArray.toList_eq, ByteArray.toList_eq, ← h2, ← e]
      rfl
  have h3 := hv.1
  rw [atKey_of_not_has hn] at h3
  rw [hrun, DataW.held.inj h3, hn]

theorem FeatAns.close {w u w3 : World} {id : ByteArray} {k : Int} {ps : List (Int × Int)} {ts : List Tg} {v : Value} {r : Nat} (h : FeatAns u id k ps ts v w3) (hu : Below w.heap.size w u) (hr : w.heap.size ≤ r) (hr' : r < u.heap.size) (x0 x1 x2 x3 : Value) :
    FeatAns w id k ps ts v ((((w3.setCell ⟨r, 0, none⟩ x0).setCell ⟨r, 1, none⟩ x1).setCell ⟨r, 2, none⟩ x2).setCell ⟨r, 3, none⟩ x3) := by
  obtain ⟨a, cap, c, ca, h1, h2, h3, h4, h5, h6, h7, h8, h9⟩ := h
  have na : blk a ≠ some r := fun e => by have := (h4 _ e).1; omega
  have nc : blk c ≠ some r := fun e => by have := (h7 _ e).1; omega
  have hs := hu.size
  exact ⟨a, cap, c, ca, h1, (((h2.set na).set na).set na).set na, (((h3.set _ _).set _ _).set _ _).set _ _, fun x e => ⟨by have := (h4 x e).1; omega, by have := (h4 x e).2; simpa [World.setCell] using this⟩, (((h5.set nc).set nc).set nc).set nc, (((h6.set _ _).set _ _).set _ _).set _ _, fun x e => ⟨by have := (h7 x e).1; omega, by have := (h7 x e).2; simpa [World.setCell] using this⟩, h8, ((((hu.trans (h9.mono hs)).setCell hr _).setCell hr _).setCell hr _).setCell hr _⟩

theorem firstF_none {fs : List Ft} {id : ByteArray} (h : ¬ firstF fs id < fs.length) : ∀ j, j < fs.length → fid fs j ≠ id := by
  intro j hj e
  refine h ?_
  unfold firstF
  exact List.findIdx_lt_length_of_exists ⟨fs[j], List.getElem_mem hj, by simp [fid_get hj, e]⟩

end Go.Proofs.Ytelimcknhaflfaa

namespace Go.Proofs.Ytelimcknhaflfaa
set_option linter.unusedVariables false
open Go.ChangeShapes Go.WideShapes Go.ChangeAt Go.RowKit Go.Deep

/-- the blocks of a thing's parts -/
def inPart (p : Pl) (x : Nat) : Prop := blk p.1.1 = some x ∨ blk p.2.1 = some x

/-- a list that is being built -/
structure Built (w : World) (lo : Nat) (v : Value) (k : Nat) (fs : List Ft) (ad : Nat → Pl) : Prop where
  row : w.ownsRow lo 29 4 v k (flatF fs ad k)
  pts : ∀ i, i < k → PtsAt w (ad i).1.1 (fps fs i) ∧ Soft w (ad i).1.1 (fps fs i).length
  tags : ∀ i, i < k → TagsAt w (ad i).2.1 (fts fs i) ∧ Soft w (ad i).2.1 (fts fs i).length
  rng : ∀ i, i < k → ∀ x, inPart (ad i) x → lo ≤ x ∧ x < w.heap.size ∧ v.ownBlock ≠ some x
  two : ∀ i, i < k → Apart (ad i).1.1 (ad i).2.1
  far : ∀ i j, i < j → j < k → ∀ x, inPart (ad i) x → ¬ inPart (ad j) x

theorem built_none (w : World) (lo : Nat) (fs : List Ft) (ad : Nat → Pl) : Built w lo (.slice none 0 0) 0 fs ad :=
  ⟨World.ownsRow_nil _ _ _ _, fun _ h => absurd h (Nat.not_lt_zero _), fun _ h => absurd h (Nat.not_lt_zero _), fun _ h => absurd h (Nat.not_lt_zero _), fun _ h => absurd h (Nat.not_lt_zero _), fun _ _ _ h => absurd h (Nat.not_lt_zero _)⟩

theorem Built.below {w w' : World} {lo : Nat} {v : Value} {k : Nat} {fs : List Ft} {ad : Nat → Pl} (h : Built w lo v k fs ad) (hb : Below w.heap.size w w') : Built w' lo v k fs ad :=
  ⟨ownsRow_below h.row hb, fun i hi => ⟨(h.pts i hi).1.below hb, (h.pts i hi).2.below (h.pts i hi).1 hb⟩, fun i hi => ⟨(h.tags i hi).1.below hb, (h.tags i hi).2.belowT (h.tags i hi).1 hb⟩, fun i hi x hx => ⟨(h.rng i hi x hx).1, Nat.lt_of_lt_of_le (h.rng i hi x hx).2.1 hb.size, (h.rng i hi x hx).2.2⟩, h.two, h.far⟩

/-- one more thing, appended -/
theorem Built.step {wr w3 wb wa : World} {lo : Nat} {v : Value} {k : Nat} {fs : List Ft} {ad : Nat → Pl} {p : Pl} {gg cap' : Nat} (h : Built wr lo v k fs ad) (hlo : lo ≤ wr.heap.size) (hb : Below wr.heap.size wr w3) (h3 : Below w3.heap.size w3 wb) (hz : wb.heap.size = w3.heap.size + 1)
    (hp : PtsAt w3 p.1.1 (fps fs k)) (hps : Soft w3 p.1.1 (fps fs k).length) (hpf : Fresh wr w3 p.1.1) (ht : TagsAt w3 p.2.1 (fts fs k)) (hts : Soft w3 p.2.1 (fts fs k).length) (htf : Fresh wr w3 p.2.1) (hap : Apart p.1.1 p.2.1)
    (hrow : wa.ownsRow lo 29 4 (.slice (some ⟨gg, 0, none⟩) (k + 1) cap') (k + 1) (flatF fs ad k ++ cellsF (fg fs k) p)) (hg : wb.grownBy wa v.ownBlock) (hat : v.ownBlock = some gg ∨ gg = w3.heap.size + 1) :
    Built wa lo (.slice (some ⟨gg, 0, none⟩) (k + 1) cap') (k + 1) fs (plSet ad k p) := by
  have hbb : Below wr.heap.size wr wb := hb.trans (h3.mono hb.size)
  have hB := h.below hbb
  have hvl : ∀ x, v.ownBlock = some x → x < wr.heap.size := fun x hx => (h.row.lt x hx).2
  have ht' : Turned wb wa (fun x => v.ownBlock = some x) := Turned.of_grown hg fun x hx => hx
  have hwz := hg.size
  have hfr : ∀ x, inPart p x → wr.heap.size ≤ x ∧ x < w3.heap.size := fun x hx => hx.elim (hpf x) (htf x)
  have hs3 := hb.size
  have nv : ∀ x, inPart p x → ¬ v.ownBlock = some x := fun x hx e => by have h1 := (hfr x hx).1; have h2 := hvl x e; omega
  have gne : ∀ x, x < w3.heap.size → ¬ v.ownBlock = some x → gg ≠ x := fun x hx hn e => by
    rcases hat with h1 | h1
    · exact hn (by rw [h1, e])
    · omega
  have own' : ∀ x, (Value.slice (some ⟨gg, 0, none⟩) (k + 1) cap').ownBlock = some x → gg = x := fun x hx => by simpa [Value.ownBlock] using hx
  refine ⟨?_, fun i hi => ?_, fun i hi => ?_, fun i hi x hx => ?_, fun i hi => ?_, fun i j hij hj x hx hy => ?_⟩
  · rw [flatF_succ, flatF_set _ _ _ _ _ (Nat.le_refl _), plSet_at]
    exact hrow
  · by_cases e : i = k
    · subst e
      rw [plSet_at]
      have q := hp.below h3
      exact ⟨q.turned ht' fun x hx => nv x (.inl hx), (hps.below hp h3).turnedP q ht' fun x hx => nv x (.inl hx)⟩
    · rw [plSet_lt (by omega)]
      obtain ⟨q1, q2⟩ := hB.pts i (by omega)
      have n : ∀ x, blk (ad i).1.1 = some x → ¬ v.ownBlock = some x := fun x hx e => (h.rng i (by omega) x (.inl hx)).2.2 e
      exact ⟨q1.turned ht' n, q2.turnedP q1 ht' n⟩
  · by_cases e : i = k
    · subst e
      rw [plSet_at]
      have q := ht.below h3
      exact ⟨q.turned ht' fun x hx => nv x (.inr hx), (hts.belowT ht h3).turnedT q ht' fun x hx => nv x (.inr hx)⟩
    · rw [plSet_lt (by omega)]
      obtain ⟨q1, q2⟩ := hB.tags i (by omega)
      have n : ∀ x, blk (ad i).2.1 = some x → ¬ v.ownBlock = some x := fun x hx e => (h.rng i (by omega) x (.inr hx)).2.2 e
      exact ⟨q1.turned ht' n, q2.turnedT q1 ht' n⟩
  · by_cases e : i = k
    · subst e
      rw [plSet_at] at hx
      obtain ⟨q1, q2⟩ := hfr x hx
      exact ⟨by omega, by omega, fun e => gne x q2 (nv x hx) (own' x e)⟩
    · rw [plSet_lt (by omega)] at hx
      obtain ⟨q1, q2, q3⟩ := h.rng i (by omega) x hx
      exact ⟨q1, by omega, fun e => gne x (by omega) q3 (own' x e)⟩
  · by_cases e : i = k
    · subst e
      rw [plSet_at]
      exact hap
    · rw [plSet_lt (by omega)]
      exact h.two i (by omega)
  · rw [plSet_lt (by omega)] at hx
    by_cases e : j = k
    · subst e
      rw [plSet_at] at hy
      have h1 := (hfr x hy).1
      have h2 := (h.rng i (by omega) x hx).2.1
      omega
    · rw [plSet_lt (by omega)] at hy
      exact h.far i j hij (by omega) x hx hy

/-- a built list lies in memory of its own -/
theorem Built.lies {w : World} {lo b cap : Nat} {fs : List Ft} {ad : Nat → Pl} (h : Built w lo (.slice (some ⟨b, 0, none⟩) fs.length cap) fs.length fs ad) : Lies w b 0 fs ad ∧ Sep b fs.length ad ∧ (∀ x, blocksOf b fs.length ad x → lo ≤ x ∧ x < w.heap.size) := by
  obtain ⟨h1, ⟨h2, _⟩ | ⟨g, cap2, cur, e, hb, hg, hc, hm, hs, hx⟩⟩ := h.row
  · simp at h2
  · obtain ⟨rfl, rfl⟩ : b = g ∧ cap = cap2 := by simpa using e
    have hlt : b < w.heap.size := (Array.getElem?_eq_some_iff.1 hg).1
    have cell : ∀ j v, j < fs.length * 4 → (flatF fs ad fs.length)[j]? = some v → w.cell? ⟨b, 0 + j, none⟩ = some v := by
      intro j v hj hv
      rw [← hx, List.getElem?_take, if_pos hj] at hv
      simp only [World.cell?, hg, Option.isSome_none, Bool.false_eq_true, if_false, Nat.zero_add]
      simpa using hv
    refine ⟨⟨fun i hi => ?_, fun i hi => ?_, h.pts, h.tags, hlt⟩, ⟨fun i hi => ?_, h.two, fun i j hi hj hne => ?_⟩, ?_⟩
    · have f := fun o ho => flatF_at fs ad fs.length i o hi ho
      exact ⟨cell _ _ (by omega) (f 0 (by omega)), cell _ _ (by omega) (f 1 (by omega)), cell _ _ (by omega) (f 2 (by omega)), cell _ _ (by omega) (f 3 (by omega))⟩
    · constructor <;> simp [World.frozen?, hg]
    · exact ⟨fun e => (h.rng i hi b (.inl e)).2.2 rfl, fun e => (h.rng i hi b (.inr e)).2.2 rfl⟩
    · have key : ∀ x, inPart (ad i) x → ¬ inPart (ad j) x := by
        rcases Nat.lt_or_gt_of_ne hne with q | q
        · exact h.far i j q hj
        · exact fun x hx hy => h.far j i q hi x hy hx
      exact ⟨fun x hx hy => key x (.inl hx) (.inl hy), fun x hx hy => key x (.inl hx) (.inr hy), fun x hx hy => key x (.inr hx) (.inl hy), fun x hx hy => key x (.inr hx) (.inr hy)⟩
    · rintro x (rfl | ⟨i, hi, e⟩)
      · exact ⟨hb, hlt⟩
      · exact ⟨(h.rng i hi x e).1, (h.rng i hi x e).2.1⟩

end Go.Proofs.Ytelimcknhaflfaa

namespace Go.Proofs.Ytelimcknhaflfaa
set_option linter.unusedVariables false
open Go.ChangeShapes Go.WideShapes Go.ChangeAt Go.RowKit Go.Deep Go.Maps

/-- what a look-up of a name that is there gives -/
theorem look_heldF {w : World} {b n : Nat} {D : DataW Value} {us : List En} (hown : w.ownsMap Try.prog 9 heldElem b n D) (ht : TellsF D us) {i : Nat} (hi : i < us.length) (hl : (ek us i).size ≤ maxLen) :
    (Instr.lookup 49 (.map (some b)) (.string (ek us i)) false).run Try.prog w = .ok (ev us i) w := by
  have hz : (zeroValue 29).run Try.prog w = .ok (.agg #[.string .empty, .int .i64 0, .slice none 0 0, .slice none 0 0]) w := by kernel_rfl
  obtain ⟨v, ps, hrun, hv⟩ := hown.lookup keyT Try.underlying49 hz (zd := .held (.agg #[.string .empty, .int .i64 0, .slice none 0 0, .slice none 0 0])) (zp := []) rfl (Go.WideMaps.keyOf_string_mk Try.underlying9 hl)
  have hm : us[i] ∈ us := List.getElem_mem hi
  have e : (ek us i) = us[i].1 := by simp [ek, hi]
  have e2 : (ev us i) = us[i].2 := by simp [ev, hi]
  have h1 := ht.at_ us[i] hm (.held (.agg #[.string .empty, .int .i64 0, .slice none 0 0, .slice none 0 0]))
  rw [e] at hv
  rw [show (DataW.atKey D (.string us[i].1.data.toList) (.held (.agg #[.string .empty, .int .i64 0, .slice none 0 0, .slice none 0 0]))) = .held (entV us[i]) from h1] at hv
  simp only [heldElem, Option.some.injEq, Prod.mk.injEq] at hv
  have h3 := DataW.held.inj hv.1
  rw [hrun, h3, e2]
  rfl

theorem Built.mono {w : World} {lo lo' : Nat} {v : Value} {k : Nat} {fs : List Ft} {ad : Nat → Pl} (h : Built w lo v k fs ad) (hl : lo' ≤ lo) : Built w lo' v k fs ad :=
  ⟨ownsRow_base h.row hl, h.pts, h.tags, fun i hi x hx => ⟨Nat.le_trans hl (h.rng i hi x hx).1, (h.rng i hi x hx).2⟩, h.two, h.far⟩

set_option maxRecDepth 100000 in
set_option maxHeartbeats 4000000 in
theorem featsInOrder_any (b n : Nat) (D : DataW Value) (us : List En) (gs : List Ft) (w : World) (hown : w.ownsMap Try.prog 9 heldElem b n D) (ht : TellsF D us) (he : Ents w us gs) (hn : n ≤ 1048577) (hL : FeatsLen gs 1048576) :
    Calls Try.prog 20 #[.map (some b)] w fun e w' => (∃ v ad, e = .returned v ∧ Built w' w.heap.size v gs.length gs ad) ∧ gs.length ≤ n ∧ Below w.heap.size w w' := by
  obtain ⟨i0, hi, hz0, hz1, hz2⟩ := info_parts infoF
  have HI := Lib.hid hi
  have HZ0 := Lib.hid hz0
  have HZ1 := Lib.hid hz1
  have HZ2 := Lib.hid hz2
  have HO := Lib.hid hown
  have HT := Lib.hid ht
  have HE := Lib.hid he
  have HL := Lib.hid hL
  have hlen := he.1
  clear hi hz0 hz1 hz2 hown ht he hL
  go_enter Try.func20, Try.ntmps20
  go_wp2_with fail
  refine (namesInOrder_any b n D us _ HO.out HT.out hn).mono ?_
  rintro e w1 ⟨⟨v1, rfl, hr1⟩, hl1, hb1⟩
  generalize hys : us.map (·.1) = ys at hr1
  have hyl : us.length = ys.length := by rw [← hys, List.length_map]
  have HY : Hid (∀ i, i < gs.length → sx ys i = ek us i) := fun i hi => by
    rw [← hys]
    simp [sx, ek, show i < us.length by omega]
  clear hys
  obtain ⟨a1, cap1, rfl, h1, _⟩ := owned_strs hr1 hyl
  have H1 := Lib.hid h1
  have B1 := Lib.hid hb1
  have O1 := Lib.hid (ownsMap_below HO.out hb1)
  have hsz1 := hb1.size
  clear hr1 h1 hb1 HO
  have hyg : ys.length = gs.length := by omega
  rw [hyg]
  go_wp2
  go_loopw [3, 5, 9] (fun s _ i wr => ∃ (k : Nat) (v : Value) (ad : Nat → Pl), k ≤ gs.length ∧ i = .int .i64 k ∧ v = s ∧ Built wr w1.heap.size v k gs ad ∧ Below w1.heap.size w1 wr) (fun _ _ i _ => gs.length - (intOf i).toNat)
  case atStart => exact ⟨0, _, fun _ => ((none, 0), (none, 0)), Nat.zero_le _, rfl, rfl, built_none _ _ _ _, Below.refl _ _⟩
  case round =>
    obtain ⟨k, v, ad, hk, rfl, rfl, hbu, hbel⟩ := hrel
    have hsz := hbel.size
    have HBu := Lib.hid hbu
    have HB := Lib.hid hbel
    have BW : Hid (Below w.heap.size w wr) := B1.out.trans (hbel.mono hsz1)
    by_cases hlt : k < gs.length
    · obtain ⟨g, off, rfl, hg, hc⟩ := H1.out k (by omega)
      rw [← hbel.cell (p := ⟨g, _, none⟩) hg, HY.out k hlt] at hc
      obtain ⟨l1, l2, l3, _⟩ := HL.out k hlt
      have hek := (HE.out.2 k hlt).1
      have hlk := look_heldF (ownsMap_below O1.out hbel) HT.out (i := k) (by omega) (by rw [hek]; unfold maxLen; omega)
      obtain ⟨pa, pc, ta, tc, hev, hpp, htt⟩ := (HE.out.2 k hlt).2
      rw [hev] at hlk
      have D1 := Lib.hid (hpp.below BW.out)
      have D2 := Lib.hid (htt.below BW.out)
      have hvb : ∀ j, v.ownBlock = some j → w1.heap.size ≤ j ∧ j < wr.heap.size := fun j hj => hbu.row.lt j hj
      have HV := Lib.hid hvb
      clear hbu hbel hpp htt hev hek hvb
      go_wp2_with fail
      refine (featCopy_any _ _ _ _ _ _ _ _ _ D1.out D2.out (by show (fps gs k).length ≤ _; omega) (by show (fts gs k).length ≤ _; omega)).mono ?_
      rintro e w3 ⟨v3, rfl, hg3⟩
      have hb3 := hg3.got.2
      obtain ⟨qa, qc, sa, sc, rfl, q1, q2, q3, q4, q5, q6, q7, _⟩ := hg3
      have E1 := Lib.hid q1
      have E2 := Lib.hid q2
      have E3 := Lib.hid q3
      have E4 := Lib.hid q4
      have E5 := Lib.hid q5
      have E6 := Lib.hid q6
      have E7 := Lib.hid q7
      have B3 := Lib.hid hb3
      have R3 : Hid (w3.ownsRow w1.heap.size 29 4 v k (flatF gs ad k)) := ownsRow_below HBu.out.row hb3
      have hz3 := hb3.size
      have A3 : Hid (∀ o, Below w3.heap.size w3 (w3.alloc o)) := fun o => (Below.refl _ _).alloc (Nat.le_refl _) _
      clear hb3 q1 q2 q3 q4 q5 q6 q7 hlk hc
      go_wp2_with (at_builtin; refine wpList_append_lies _ (by rfl) _ _ _ (by rfl) w1.heap.size 29 i0 _ 4 72 Try.underlying23 HI.out HZ0.out HZ1.out HZ2.out rfl (by omega) v k (flatF gs ad k) (by rfl) (R3.out.alloc _) ⟨w3.heap.size, 0, none⟩ 1 1 (cellsF (fg gs k) ((qa, qc), (sa, sc))) (by rfl) (by rfl) (World.news_of_block (cs := #[.string (fg gs k).1, .int .i64 (fg gs k).2.1, .slice qa (fg gs k).2.2.1.length qc, .slice sa (fg gs k).2.2.2.length sc]) (t := 29) (fr := (0, 0)) (heap_alloc_new w3 _)) (by simp [Value.oneCell', cellsF]) (by omega) (by unfold maxLen; omega) (by omega) (by simp; omega) (w3.heap.size + 1) (by simp) ?_; intro gg cap' wa hown1 hgrow hat hlt')
      have HS : Hid (Built wa w1.heap.size (.slice (some ⟨gg, 0, none⟩) (k + 1) cap') (k + 1) gs (plSet ad k ((qa, qc), (sa, sc)))) := HBu.out.step hsz B3.out (A3.out _) (by simp) E1.out E2.out E3.out E4.out E5.out E6.out E7.out hown1 hgrow hat
      have HG := Lib.hid hgrow
      clear hown1 hgrow hat
      go_roundw
      case rel => exact ⟨k + 1, _, _, by omega, by go_num, rfl, HS.out, (HB.out.trans ((B3.out.alloc (by omega) _).mono hsz)).grown HG.out (by simp; omega) (fun j hj => (HV.out j hj).1)⟩
      case measure => simp [intOf]; omega
    · obtain rfl : k = gs.length := by omega
      clear hbu hbel
      go_wp2
      go_ret
      exact ⟨⟨v, ad, rfl, HBu.out.mono hsz1⟩, by omega, BW.out⟩
end Go.Proofs.Ytelimcknhaflfaa

namespace Go.Proofs.Ytelimcknhaflfaa
set_option linter.unusedVariables false
open Go.ChangeShapes Go.WideShapes Go.ChangeAt Go.RowKit Go.Deep Go.Maps

/-- the things of other names -/
def cutL (fs : List Ft) (id : ByteArray) : List Ft := fs.filter (fun f => decide (f.1 ≠ id))
/-- what a map without a name is -/
def cutR (fs : List Ft) (id : ByteArray) : List Ft := if getHas fs id then cutL fs id else []

theorem ents_cons {w : World} {e : En} {es : List En} {f : Ft} {fs : List Ft} : Ents w (e :: es) (f :: fs) ↔ (e.1 = f.1 ∧ FeatV w e.2 f) ∧ Ents w es fs := by
  constructor
  · rintro ⟨h1, h2⟩
    refine ⟨?_, by simpa using h1, fun i hi => ?_⟩
    · have := h2 0 (by simp)
      simpa [ek, ev, fid, fg] using this
    · have := h2 (i + 1) (by simpa using hi)
      simpa [ek, ev, fid, fg] using this
  · rintro ⟨h0, h1, h2⟩
    refine ⟨by simpa using h1, fun i hi => ?_⟩
    cases i with
    | zero => simpa [ek, ev, fid, fg] using h0
    | succ i =>
      have := h2 i (by simpa using hi)
      simpa [ek, ev, fid, fg] using this

theorem ents_cut {w : World} (id : ByteArray) : ∀ {es : List En} {fs : List Ft}, Ents w es fs → Ents w (cutF es id.data.toList) (cutL fs id)
  | [], [], h => h
  | [], f :: fs, h => absurd h.1 (by simp)
  | e :: es, [], h => absurd h.1 (by simp)
  | e :: es, f :: fs, h => by
    obtain ⟨⟨h1, h2⟩, h3⟩ := ents_cons.1 h
    have ih := ents_cut id h3
    have he : (klF e ≠ id.data.toList) ↔ f.1 ≠ id := by
      unfold klF
      rw [h1]
      constructor
      · intro h e
        exact h (by rw [e])
      · intro h e
        refine h ?_
        rw [← toList_inj, ByteArray.toList_eq, ByteArray.toList_eq]
        exact e
    unfold cutF cutL at ih ⊢
    by_cases hf : f.1 ≠ id
    · rw [List.filter_cons_of_pos (by simpa using he.2 hf), List.filter_cons_of_pos (by simpa using hf)]
      exact ents_cons.2 ⟨⟨h1, h2⟩, ih⟩
    · rw [List.filter_cons_of_neg (by simpa using fun h => hf (he.1 h)), List.filter_cons_of_neg (by simpa using hf)]
      exact ih

theorem cutL_lens {fs : List Ft} {m : Int} (id : ByteArray) (h : FeatsLen fs m) : FeatsLen (cutL fs id) m := featsLen_iff.2 fun f hf => featsLen_iff.1 h f ((List.mem_filter.1 hf).1)
theorem cutL_len (fs : List Ft) (id : ByteArray) : (cutL fs id).length ≤ fs.length := List.length_filter_le _ _

/-- what a function answers that makes a list of things, and says whether -/
def ListAns (w : World) (gs : List Ft) (b : Bool) (e : Ending) (w' : World) : Prop :=
  (∃ v ad, e = .returned (.tuple #[v, .bool b]) ∧ Built w' w.heap.size v gs.length gs ad) ∧ Below w.heap.size w w'

end Go.Proofs.Ytelimcknhaflfaa

namespace Go.Proofs.Ytelimcknhaflfaa
set_option linter.unusedVariables false
open Go.ChangeShapes Go.WideShapes Go.ChangeAt Go.RowKit Go.Deep

/-- a list whose memory lies between these blocks -/
def GotL (lo hi : Nat) (w : World) (v : Value) (fs : List Ft) : Prop :=
  ∃ a cap, v = .slice a fs.length cap ∧ FeatsAt w a fs ∧ ∀ i, i < fs.length → ∃ b off pa pc ta tc, a = some ⟨b, off, none⟩ ∧ lo ≤ b ∧ b < hi ∧
    w.cell? ⟨b, off + i * 4 + 2, none⟩ = some (.slice pa (fps fs i).length pc) ∧ w.cell? ⟨b, off + i * 4 + 3, none⟩ = some (.slice ta (fts fs i).length tc) ∧
    ((fps fs i).length = 0 ∨ ∀ x, blk pa = some x → lo ≤ x ∧ x < hi) ∧ ((fts fs i).length = 0 ∨ ∀ x, blk ta = some x → lo ≤ x ∧ x < hi)

theorem GotL.turned {lo hi : Nat} {w w' : World} {v : Value} {fs : List Ft} {S : Nat → Prop} (h : GotL lo hi w v fs) (ht : Turned w w' S) (hS : ∀ x, lo ≤ x → x < hi → ¬ S x) : GotL lo hi w' v fs := by
  obtain ⟨a, cap, rfl, hF, hR⟩ := h
  refine ⟨a, cap, rfl, fun i hi => ?_, fun i hi => ?_⟩
  · obtain ⟨b, off, pa, pc, ta, tc, rfl, hb1, hb2, h3, h4, h5, h6⟩ := hR i hi
    obtain ⟨b', off', pa', pc', ta', tc', e, hlt, g1, g2, g3, g4, g5, g6⟩ := hF i hi
    obtain ⟨rfl, rfl⟩ : b = b' ∧ off = off' := by simpa using e
    rw [h3] at g3
    rw [h4] at g4
    obtain ⟨rfl, rfl⟩ : pa = pa' ∧ pc = pc' := by simpa using g3
    obtain ⟨rfl, rfl⟩ : ta = ta' ∧ tc = tc' := by simpa using g4
    have nb : ¬ S b := hS b hb1 hb2
    exact ⟨b, off, pa, pc, ta, tc, rfl, Nat.lt_of_lt_of_le hlt ht.size, ht.cell g1 nb, ht.cell g2 nb, ht.cell h3 nb, ht.cell h4 nb, g5.turned0 ht (h5.imp (fun h => h) fun q x hx => hS x (q x hx).1 (q x hx).2), g6.turned0 ht (h6.imp (fun h => h) fun q x hx => hS x (q x hx).1 (q x hx).2)⟩
  · obtain ⟨b, off, pa, pc, ta, tc, rfl, hb1, hb2, h3, h4, h5, h6⟩ := hR i hi
    have nb : ¬ S b := hS b hb1 hb2
    exact ⟨b, off, pa, pc, ta, tc, rfl, hb1, hb2, ht.cell h3 nb, ht.cell h4 nb, h5, h6⟩

theorem GotL.below {lo hi : Nat} {w w' : World} {v : Value} {fs : List Ft} (h : GotL lo hi w v fs) (hb : Below w.heap.size w w') : GotL lo hi w' v fs := h.turned (S := fun _ => False) (Turned.of_below hb) fun _ _ _ h => h
theorem GotL.mono {lo hi lo' hi' : Nat} {w : World} {v : Value} {fs : List Ft} (h : GotL lo hi w v fs) (h1 : lo' ≤ lo) (h2 : hi ≤ hi') : GotL lo' hi' w v fs := by
  obtain ⟨a, cap, rfl, hF, hR⟩ := h
  refine ⟨a, cap, rfl, hF, fun i hi => ?_⟩
  obtain ⟨b, off, pa, pc, ta, tc, rfl, hb1, hb2, h3, h4, h5, h6⟩ := hR i hi
  exact ⟨b, off, pa, pc, ta, tc, rfl, by omega, by omega, h3, h4, h5.imp (fun h => h) fun q x hx => ⟨by have := (q x hx).1; omega, by have := (q x hx).2; omega⟩, h6.imp (fun h => h) fun q x hx => ⟨by have := (q x hx).1; omega, by have := (q x hx).2; omega⟩⟩
theorem gotL_nil (lo hi : Nat) (w : World) (a : Option Addr) (cap : Nat) : GotL lo hi w (.slice a 0 cap) [] := ⟨a, cap, rfl, FeatsAt.nil _ _, fun _ h => absurd h (Nat.not_lt_zero _)⟩

theorem Row.got {w : World} {lo : Nat} {v : Value} {fs : List Ft} {ad : Nat → Pl} (h : Row w (fun x => lo ≤ x) lo v fs.length fs ad) : GotL lo w.heap.size w v fs := by
  obtain ⟨a, cap, rfl, hF, hR⟩ := h.reads
  refine ⟨a, cap, rfl, hF, fun i hi => ?_⟩
  obtain ⟨b, off, rfl, h1, h2, h3, h4⟩ := hR i hi
  exact ⟨b, off, _, _, _, _, rfl, h1, h2, h3, h4, (h.prng i hi).imp (fun h => h) fun q x hx => ⟨(q x hx).1, (q x hx).2.1⟩, (h.trng i hi).imp (fun h => h) fun q x hx => ⟨(q x hx).1, (q x hx).2.1⟩⟩

/-- how many of the first things stay -/
def cutN (fs : List Ft) (id : ByteArray) (j : Nat) : Nat := (cutL (fs.take j) id).length

theorem cutL_append (xs ys : List Ft) (id : ByteArray) : cutL (xs ++ ys) id = cutL xs id ++ cutL ys id := List.filter_append _ _
theorem cut_split {fs : List Ft} {j : Nat} (h : j < fs.length) : fs = fs.take j ++ fg fs j :: fs.drop (j + 1) := by
  rw [fg_get h, ← List.drop_eq_getElem_cons h, List.take_append_drop]
theorem cutN_yes {fs : List Ft} {id : ByteArray} {j : Nat} (h : j < fs.length) (hne : fid fs j ≠ id) : cutN fs id (j + 1) = cutN fs id j + 1 ∧ fg (cutL fs id) (cutN fs id j) = fg fs j ∧ cutN fs id j < (cutL fs id).length := by
  have e1 : cutL [fg fs j] id = [fg fs j] := by
    unfold cutL
    rw [List.filter_cons_of_pos (by simpa [fid] using hne)]
    rfl
  have e2 : cutL fs id = cutL (fs.take j) id ++ fg fs j :: cutL (fs.drop (j + 1)) id := by
    conv => lhs; rw [cut_split h]
    rw [cutL_append, show fg fs j :: fs.drop (j + 1) = [fg fs j] ++ fs.drop (j + 1) from rfl, cutL_append, e1]
    rfl
  refine ⟨?_, ?_, ?_⟩
  · unfold cutN
    rw [List.take_succ_eq_append_getElem h, ← fg_get h, cutL_append, e1]
    simp
  · rw [e2]
    unfold cutN fg
    simp
  · rw [e2]
    unfold cutN
    simp
theorem cutN_no {fs : List Ft} {id : ByteArray} {j : Nat} (h : j < fs.length) (he : fid fs j = id) : cutN fs id (j + 1) = cutN fs id j := by
  have e1 : cutL [fg fs j] id = [] := by
    unfold cutL
    rw [List.filter_cons_of_neg (by simpa [fid] using he)]
    rfl
  unfold cutN
  rw [List.take_succ_eq_append_getElem h, ← fg_get h, cutL_append, e1]
  simp
theorem cutN_all (fs : List Ft) (id : ByteArray) : cutN fs id fs.length = (cutL fs id).length := by unfold cutN; rw [List.take_length]
end Go.Proofs.Ytelimcknhaflfaa

namespace Go.Proofs.Ytelimcknhaflfaa
set_option linter.unusedVariables false
open Go.ChangeShapes Go.WideShapes Go.ChangeAt Go.RowKit

theorem lmkTo_full {fs : List Ft} (k : Int) {i : Nat} (h : i < fs.length) : fid (lmkTo fs k fs.length) i = markT (lmk fs k i) ∧ fkd (lmkTo fs k fs.length) i = lmk fs k i + 1 ∧ fps (lmkTo fs k fs.length) i = marks (lmk fs k i + 2) (fps fs i).length ∧ fts (lmkTo fs k fs.length) i = marksT (lmk fs k i + 2 + 2 * ((fps fs i).length : Int)) (fts fs i).length := by
  unfold fid fkd
  have e : fg (lmkTo fs k fs.length) i = lmkF fs k i := by rw [lmkTo_at k _ h, if_pos h]
  have e3 : fps (lmkTo fs k fs.length) i = (lmkF fs k i).2.2.1 := by rw [← e]; rfl
  have e4 : fts (lmkTo fs k fs.length) i = (lmkF fs k i).2.2.2 := by rw [← e]; rfl
  rw [e, e3, e4]
  exact ⟨rfl, rfl, rfl, rfl⟩

/-- a list that lies in memory of its own between these blocks -/
def ListH (lo hi : Nat) (w : World) (a : Option Addr) (gs : List Ft) : Prop :=
  gs = [] ∨ ∃ b ad, a = some ⟨b, 0, none⟩ ∧ Lies w b 0 gs ad ∧ Sep b gs.length ad ∧ ∀ x, blocksOf b gs.length ad x → lo ≤ x ∧ x < hi

theorem Built.listH {w : World} {lo : Nat} {v : Value} {gs : List Ft} {ad : Nat → Pl} (h : Built w lo v gs.length gs ad) : ∃ a cap, v = .slice a gs.length cap ∧ ListH lo w.heap.size w a gs := by
  obtain ⟨h1, ⟨h2, h3⟩ | ⟨b, cap, cur, rfl, _⟩⟩ := h.row
  · exact ⟨none, 0, by rw [h2, h3], .inl (List.eq_nil_of_length_eq_zero h3)⟩
  · exact ⟨some ⟨b, 0, none⟩, cap, rfl, .inr ⟨b, ad, rfl, h.lies.1, h.lies.2.1, h.lies.2.2⟩⟩

theorem ListH.reads {lo hi : Nat} {w : World} {a : Option Addr} {gs : List Ft} (h : ListH lo hi w a gs) : FeatsAt w a gs := by
  rcases h with rfl | ⟨b, ad, rfl, h, _⟩
  · exact FeatsAt.nil _ _
  · exact h.reads

theorem ListH.turned {lo hi : Nat} {w w' : World} {a : Option Addr} {gs : List Ft} {S : Nat → Prop} (h : ListH lo hi w a gs) (ht : Turned w w' S) (hS : ∀ x, lo ≤ x → x < hi → ¬ S x) : ListH lo hi w' a gs := by
  rcases h with rfl | ⟨b, ad, rfl, h, h2, h3⟩
  · exact .inl rfl
  · exact .inr ⟨b, ad, rfl, h.turned ht (fun x hx => hS x (h3 x hx).1 (h3 x hx).2), h2, h3⟩

theorem ListH.below {lo hi : Nat} {w w' : World} {a : Option Addr} {gs : List Ft} (h : ListH lo hi w a gs) (hb : Below w.heap.size w w') : ListH lo hi w' a gs := h.turned (S := fun _ => False) (Turned.of_below hb) fun _ _ _ h => h

theorem GotL.reads {lo hi : Nat} {w : World} {a : Option Addr} {cap : Nat} {gs : List Ft} (h : GotL lo hi w (.slice a gs.length cap) gs) : FeatsAt w a gs := by
  obtain ⟨a', cap', e, h, _⟩ := h
  obtain ⟨rfl, rfl⟩ : a = a' ∧ cap = cap' := by simpa using e
  exact h

end Go.Proofs.Ytelimcknhaflfaa

namespace Go.Proofs.Ytelimcknhaflfaa
set_option linter.unusedVariables false
open Go.ChangeShapes Go.WideShapes Go.ChangeAt Go.RowKit Go.Deep Go.Maps

theorem putL_pos {fs : List Ft} {t : Ft} (h : ∀ f ∈ fs, 0 < f.2.2.1.length) (ht : 0 < t.2.2.1.length) : ∀ f ∈ putL fs t, 0 < f.2.2.1.length := fun f hf => by
  rcases putL_mem hf with rfl | h'
  · exact ht
  · exact h f h'

/-- the map's entries with one put tell the things with one put -/
theorem ents_put {w : World} {e : En} {t : Ft} (he : e.1 = t.1) (hv : FeatV w e.2 t) : ∀ {es : List En} {fs : List Ft}, Ents w es fs → Ents w (putF es e) (putL fs t)
  | [], [], _ => by
    unfold putF putL
    exact ents_cons.2 ⟨⟨he, hv⟩, rfl, fun i hi => absurd hi (Nat.not_lt_zero _)⟩
  | [], f :: fs, h => absurd h.1 (by simp)
  | e' :: es, [], h => absurd h.1 (by simp)
  | e' :: es, f :: fs, h => by
    obtain ⟨⟨h1, h2⟩, h3⟩ := ents_cons.1 h
    have k1 : klF e' = kf f := by unfold klF kf; rw [h1]
    have k2 : klF e = kf t := by unfold klF kf; rw [he]
    unfold putF putL
    rw [k1, k2]
    by_cases hle : kf t ≤ kf f
    · rw [if_pos hle, if_pos hle]
      have hc := ents_cut t.1 h
      have c1 : cutF (e' :: es) t.1.data.toList = (e' :: es).filter (fun s => decide (klF s ≠ kf t)) := rfl
      have c2 : cutL (f :: fs) t.1 = (f :: fs).filter (fun s => decide (kf s ≠ kf t)) := by
        unfold cutL
        refine List.filter_congr fun x _ => ?_
        have : (x.1 ≠ t.1) ↔ (kf x ≠ kf t) := by
          constructor
          · intro h e
            refine h ?_
            rw [← toList_inj, ByteArray.toList_eq, ByteArray.toList_eq]
            exact e
          · intro h e
            exact h (by unfold kf; rw [e])
        exact decide_eq_decide.2 this
      rw [← c1, ← c2]
      exact ents_cons.2 ⟨⟨he, hv⟩, hc⟩
    · rw [if_neg hle, if_neg hle]
      exact ents_cons.2 ⟨⟨h1, h2⟩, ents_put he hv h3⟩

end Go.Proofs.Ytelimcknhaflfaa

namespace Go.Proofs.Ytelimcknhaflfaa
set_option linter.unusedVariables false
open Go.ChangeShapes Go.WideShapes Go.ChangeAt Go.RowKit Go.Deep Go.Maps

/-- is it a thing -/
def ftOk1 (f : Ft) : Bool := featOk f.1 f.2.1 f.2.2.1 f.2.2.2
/-- is there a map with it -/
def putHas (fs : List Ft) (f : Ft) : Bool := sheetOk fs && ftOk1 f && decide ((putL fs f).length ≤ 8)
/-- what the map with it is -/
def putRL (fs : List Ft) (f : Ft) : List Ft := if putHas fs f then putL fs f else []

/-- how many entries a map has that tells these -/
theorem size_tells {w : World} {b n : Nat} {D : DataW Value} {us : List En} (hown : w.ownsMap Try.prog 9 heldElem b n D) (ht : TellsF D us) : Maps.size D = us.length := by
  have h1 := (sorted_toldF hown ht (List.Perm.refl (strKeys D))).2
  have h2 : (strKeys D).length = Maps.size D := by
    obtain ⟨es, rfl⟩ := hown.isMap
    simp [strKeys, Maps.size]
  omega

set_option maxRecDepth 100000 in
set_option maxHeartbeats 4000000 in
theorem implSheetPut_any (a : Option Addr) (cap : Nat) (fs : List Ft) (f : Ft) (pa ta : Option Addr) (pc tc : Nat) (w : World) (hp : FeatsAt w a fs) (hl : fs.length ≤ 1048576) (ht : FeatsLen fs 1048576) (hpp : PtsAt w pa f.2.2.1) (htt : TagsAt w ta f.2.2.2) (hfl : FtLen f 1048576) :
    Calls Try.prog 6 #[.slice a fs.length cap, .agg #[.string f.1, .int .i64 f.2.1, .slice pa f.2.2.1.length pc, .slice ta f.2.2.2.length tc]] w (ListAns w (putRL fs f) (putHas fs f)) := by
  have HP := Lib.hid hp
  have HL := Lib.hid ht
  have PP := Lib.hid hpp
  have TT := Lib.hid htt
  have FL := Lib.hid hfl
  obtain ⟨x1, x2, x3, x4⟩ := hfl
  have X4 := Lib.hid x4
  clear hp ht hpp htt x4
  have A0 : Hid (∀ o, Below w.heap.size w (w.alloc o)) := fun o => (Below.refl _ _).alloc (Nat.le_refl _) _
  go_enter Try.func6, Try.ntmps6
  go_wp2_with fail
  refine (implSheetOk_any _ _ _ _ (HP.out.below (A0.out _)) hl HL.out).mono ?_
  rintro e w1 ⟨rfl, hb1⟩
  have C1 := Lib.hid ((Box4.new w (.string f.1) (.int .i64 f.2.1) (.slice pa f.2.2.1.length pc) (.slice ta f.2.2.2.length tc) 29).later hb1)
  have B1 : Hid (Below w.heap.size w w1) := (A0.out _).trans (hb1.mono (by simp))
  clear hb1
  by_cases hok : sheetOk fs = true
  · rw [hok]
    obtain ⟨c0, c1, c2, c3⟩ := C1.out
    go_wp2_with fail
    clear c0 c1 c2 c3
    refine (implFeatOk_any _ _ _ _ _ _ _ _ _ (PP.out.below B1.out) (TT.out.below B1.out) (by omega) (by omega) (by omega) X4.out).mono ?_
    rintro e w2 ⟨rfl, hb2⟩
    replace C1 := Lib.hid (C1.out.later hb2)
    have B2 : Hid (Below w.heap.size w w2) := B1.out.trans (hb2.mono B1.out.size)
    clear hb2
    by_cases hfo : featOk f.1 f.2.1 f.2.2.1 f.2.2.2 = true
    · rw [hfo]
      go_wp2_with fail
      refine (featsByName_any _ _ _ _ (HP.out.below B2.out) hl HL.out).mono ?_
      rintro e w3 ⟨rfl, ⟨es, he, ho⟩, hb3⟩
      replace C1 := Lib.hid (C1.out.later hb3)
      have B3 : Hid (Below w.heap.size w w3) := B2.out.trans (hb3.mono B2.out.size)
      have HE := Lib.hid he
      have BB3 := Lib.hid hb3
      have hz2 := B2.out.size
      have hz3 := hb3.size
      have holt := ho.lt
      have TL := Lib.hid ((ok_tells he hok).put (mapF_isMap es) (f.1, .agg #[.string f.1, .int .i64 f.2.1, .slice pa f.2.2.1.length pc, .slice ta f.2.2.2.length tc]))
      have hkey : keyOf Try.prog 9 (.string f.1) = some (keyL f.1) := Go.WideMaps.keyOf_string_mk Try.underlying9 (by unfold maxLen; omega)

      clear hb3
      have HFO : Hid (ftOk1 f = true) := hfo
      have HOK := Lib.hid hok
      clear hok hfo
      obtain ⟨c0, c1, c2, c3⟩ := C1.out
      by_cases hle : (putL fs f).length ≤ 8
      · have HH : Hid (putHas fs f = true) := by show _ = _; simp [putHas, HOK.out, HFO.out, hle]
        have HG : Hid (putRL fs f = putL fs f) := by show _ = _; unfold putRL; rw [HH.out, if_pos rfl]
        have hnn : ¬ (8 : Int) < ((putL fs f).length : Int) := by omega
        go_wp2_with (first | fail | (at_mapUpdate; refine wpList_mapUpdate_own _ rfl _ _ _ 49 rfl 9 29 keyT Try.underlying49 _ w2.heap.size fs.length (mapF es) rfl ho (by unfold maxLen; omega) _ _ _ rfl rfl hkey (.held (.agg #[.string f.1, .int .i64 f.2.1, .slice pa f.2.2.1.length pc, .slice ta f.2.2.2.length tc])) [] rfl ?_; intro w4 hown4 hgrow4; have B4 : Hid (Below w2.heap.size w2 w4) := BB3.out.grown hgrow4 (by omega) (fun j e => by obtain rfl : w2.heap.size = j := (by simpa using e); exact Nat.le_refl _); have EE : Hid (Ents w4 (putF es (f.1, .agg #[.string f.1, .int .i64 f.2.1, .slice pa f.2.2.1.length pc, .slice ta f.2.2.2.length tc])) (putL fs f)) := ents_put rfl ⟨pa, pc, ta, tc, rfl, (PP.out.below B2.out).below B4.out, (TT.out.below B2.out).below B4.out⟩ (HE.out.below B4.out); have O4 := Lib.hid hown4; have hlen := hown4.len Try.underlying49 3; rw [size_tells hown4 TL.out, EE.out.1] at hlen; clear hown4 hgrow4 c0 c1 c2 c3))
        refine (featsInOrder_any w2.heap.size _ _ _ (putL fs f) _ O4.out TL.out EE.out (by omega) (putL_lens HL.out FL.out)).mono ?_
        rintro e w5 ⟨⟨v, ad, rfl, hbu⟩, hl5, hb5⟩
        have B5 : Hid (Below w.heap.size w w5) := (B2.out.trans (B4.out.mono hz2)).trans (hb5.mono (Nat.le_trans hz2 B4.out.size))
        have HBu : Hid (Built w5 w.heap.size v (putL fs f).length (putL fs f) ad) := hbu.mono (Nat.le_trans hz2 B4.out.size)
        clear hbu hb5 hlen
        go_wp2
        go_ret2
        rw [HH.out, HG.out]
        exact ⟨⟨v, ad, rfl, HBu.out⟩, B5.out⟩
      · have HH : Hid (putHas fs f = false) := by show _ = _; simp [putHas, hle]
        have HG : Hid (putRL fs f = []) := by show _ = _; unfold putRL; rw [HH.out]; rfl
        have hnn : (8 : Int) < ((putL fs f).length : Int) := by omega
        go_wp2_with (first | fail | (at_mapUpdate; refine wpList_mapUpdate_own _ rfl _ _ _ 49 rfl 9 29 keyT Try.underlying49 _ w2.heap.size fs.length (mapF es) rfl ho (by unfold maxLen; omega) _ _ _ rfl rfl hkey (.held (.agg #[.string f.1, .int .i64 f.2.1, .slice pa f.2.2.1.length pc, .slice ta f.2.2.2.length tc])) [] rfl ?_; intro w4 hown4 hgrow4; have B4 : Hid (Below w2.heap.size w2 w4) := BB3.out.grown hgrow4 (by omega) (fun j e => by obtain rfl : w2.heap.size = j := (by simpa using e); exact Nat.le_refl _); have EE : Hid (Ents w4 (putF es (f.1, .agg #[.string f.1, .int .i64 f.2.1, .slice pa f.2.2.1.length pc, .slice ta f.2.2.2.length tc])) (putL fs f)) := ents_put rfl ⟨pa, pc, ta, tc, rfl, (PP.out.below B2.out).below B4.out, (TT.out.below B2.out).below B4.out⟩ (HE.out.below B4.out); have hlen := hown4.len Try.underlying49 3; rw [size_tells hown4 TL.out, EE.out.1] at hlen; clear hown4 hgrow4 c0 c1 c2 c3))
        go_ret2
        rw [HH.out, HG.out]
        exact ⟨⟨_, fun _ => ((none, 0), (none, 0)), rfl, built_none _ _ _ _⟩, B2.out.trans (B4.out.mono hz2)⟩
    · have hfo' : featOk f.1 f.2.1 f.2.2.1 f.2.2.2 = false := by simpa using hfo
      have HH : Hid (putHas fs f = false) := by show _ = _; simp [putHas, ftOk1, hfo']
      have HG : Hid (putRL fs f = []) := by show _ = _; unfold putRL; rw [HH.out]; rfl
      rw [hfo']
      clear hok hfo hfo'
      go_wp2
      go_ret2
      rw [HH.out, HG.out]
      exact ⟨⟨_, fun _ => ((none, 0), (none, 0)), rfl, built_none _ _ _ _⟩, B2.out⟩
  · have hok' : sheetOk fs = false := by simpa using hok
    have HH : Hid (putHas fs f = false) := by show _ = _; simp [putHas, hok']
    have HG : Hid (putRL fs f = []) := by show _ = _; unfold putRL; rw [HH.out]; rfl
    rw [hok']
    clear hok hok'
    go_wp2
    go_ret2
    rw [HH.out, HG.out]
    exact ⟨⟨_, fun _ => ((none, 0), (none, 0)), rfl, built_none _ _ _ _⟩, B1.out⟩
end Go.Proofs.Ytelimcknhaflfaa

namespace Go.Proofs.Ytelimcknhaflfaa
set_option linter.unusedVariables false
open Go.ChangeShapes Go.WideShapes Go.ChangeAt Go.RowKit

/-- things in the order of their names, each once -/
def AscL (fs : List Ft) : Prop := fs.Pairwise fun a b => kf a < kf b

theorem kf_ne_lt {a b : List UInt8} (h : a ≤ b) (hne : b ≠ a) : a < b := lt_of_le_ne h (fun e => hne (by first | exact e | exact e.symm))

theorem mem_putL (s t : Ft) : ∀ us : List Ft, s ∈ putL us t ↔ s = t ∨ (s ∈ us ∧ kf s ≠ kf t)
  | [] => by simp [putL]
  | u :: us => by
    unfold putL
    split
    · simp only [List.mem_cons, List.mem_filter, decide_eq_true_eq]
    · rename_i h
      have hu : kf u ≠ kf t := fun e => h (by rw [e]; exact List.le_refl _)
      rw [List.mem_cons, mem_putL s t us, List.mem_cons]
      constructor
      · rintro (rfl | rfl | ⟨h1, h2⟩)
        · exact .inr ⟨.inl rfl, hu⟩
        · exact .inl rfl
        · exact .inr ⟨.inr h1, h2⟩
      · rintro (rfl | ⟨rfl | h1, h2⟩)
        · exact .inr (.inl rfl)
        · exact .inl rfl
        · exact .inr (.inr ⟨h1, h2⟩)

theorem asc_putL (t : Ft) : ∀ {us : List Ft}, AscL us → AscL (putL us t)
  | [], _ => by simp [putL, AscL]
  | u :: us, h => by
    obtain ⟨h1, h2⟩ := List.pairwise_cons.1 h
    unfold putL
    split
    · rename_i hle
      refine List.pairwise_cons.2 ⟨fun s hs => ?_, List.Pairwise.filter _ h⟩
      simp only [List.mem_filter, decide_eq_true_eq] at hs
      obtain ⟨hm, hne⟩ := hs
      rcases List.mem_cons.1 hm with rfl | hm
      · exact kf_ne_lt hle hne
      · exact List.lt_of_le_of_lt hle (h1 s hm)
    · rename_i hle
      refine List.pairwise_cons.2 ⟨fun s hs => ?_, asc_putL t h2⟩
      rcases (mem_putL s t us).1 hs with rfl | ⟨hm, _⟩
      · exact List.not_le.1 hle
      · exact h1 s hm

theorem ascL_ext : ∀ {xs ys : List Ft}, AscL xs → AscL ys → (∀ s, s ∈ xs ↔ s ∈ ys) → xs = ys
  | [], [], _, _, _ => rfl
  | [], b :: ys, _, _, h => absurd ((h b).2 (.head _)) (by simp)
  | a :: xs, [], _, _, h => absurd ((h a).1 (.head _)) (by simp)
  | a :: xs, b :: ys, ha, hb, h => by
    obtain ⟨a1, a2⟩ := List.pairwise_cons.1 ha
    obtain ⟨b1, b2⟩ := List.pairwise_cons.1 hb
    have e : a = b := by
      rcases List.mem_cons.1 ((h a).1 (.head _)) with e | h1
      · exact e
      · rcases List.mem_cons.1 ((h b).2 (.head _)) with e | h2
        · exact e.symm
        · exact absurd (List.lt_trans (a1 b h2) (b1 a h1)) (List.lt_irrefl _)
    subst e
    refine congrArg (a :: ·) (ascL_ext a2 b2 fun s => ⟨fun hs => ?_, fun hs => ?_⟩)
    · rcases List.mem_cons.1 ((h s).1 (.tail _ hs)) with rfl | h1
      · exact absurd (a1 s hs) (List.lt_irrefl _)
      · exact h1
    · rcases List.mem_cons.1 ((h s).2 (.tail _ hs)) with rfl | h1
      · exact absurd (b1 s hs) (List.lt_irrefl _)
      · exact h1

theorem putL_same {s : List Ft} {f g : Ft} (h : AscL s) (e : kf f = kf g) : putL (putL s f) g = putL s g := by
  refine ascL_ext (asc_putL g (asc_putL f h)) (asc_putL g h) fun x => ?_
  rw [mem_putL, mem_putL, mem_putL, e]
  constructor
  · rintro (rfl | ⟨rfl | ⟨h1, _⟩, h2⟩)
    · exact .inl rfl
    · exact absurd e h2
    · exact .inr ⟨h1, h2⟩
  · rintro (rfl | ⟨h1, h2⟩)
    · exact .inl rfl
    · exact .inr ⟨.inr ⟨h1, h2⟩, h2⟩

theorem putL_comm {s : List Ft} {f g : Ft} (h : AscL s) (e : kf f ≠ kf g) : putL (putL s f) g = putL (putL s g) f := by
  refine ascL_ext (asc_putL g (asc_putL f h)) (asc_putL f (asc_putL g h)) fun x => ?_
  rw [mem_putL, mem_putL, mem_putL, mem_putL]
  constructor
  · rintro (rfl | ⟨rfl | ⟨h1, h3⟩, h2⟩)
    · exact .inr ⟨.inl rfl, fun q => e q.symm⟩
    · exact .inl rfl
    · exact .inr ⟨.inr ⟨h1, h2⟩, h3⟩
  · rintro (rfl | ⟨rfl | ⟨h1, h3⟩, h2⟩)
    · exact .inr ⟨.inl rfl, e⟩
    · exact .inl rfl
    · exact .inr ⟨.inr ⟨h1, h2⟩, h3⟩

theorem putL_len_same {f g : Ft} (e : kf f = kf g) : ∀ s : List Ft, (putL s f).length = (putL s g).length
  | [] => rfl
  | u :: us => by
    unfold putL
    rw [e]
    split
    · simp
    · simp [putL_len_same e us]

theorem putL_len_ge (t : Ft) : ∀ {us : List Ft}, AscL us → us.length ≤ (putL us t).length
  | [], _ => Nat.zero_le _
  | u :: us, h => by
    obtain ⟨h1, h2⟩ := List.pairwise_cons.1 h
    unfold putL
    split
    · rename_i hle
      have hf : us.filter (fun s => decide (kf s ≠ kf t)) = us := List.filter_eq_self.2 fun s hs => by
        have := List.lt_of_le_of_lt hle (h1 s hs)
        simp only [decide_eq_true_eq]
        exact fun e => absurd this (by rw [e]; exact List.lt_irrefl _)
      rw [List.length_cons, List.length_cons, List.filter_cons, hf]
      split
      · simp
      · simp
    · have := putL_len_ge t h2
      simp only [List.length_cons]
      omega

theorem fb_kf {fs : List Ft} {i : Nat} (h : i < fs.length) : fb fs i = kf fs[i] := by simp [fb, kf, fid, fg, h]
theorem ftOk_one {fs : List Ft} {i : Nat} (h : i < fs.length) : ftOk fs i = ftOk1 fs[i] := by simp [ftOk, ftOk1, fid, fkd, fps, fts, fg, h]

theorem ascL_of_ok {fs : List Ft} (h : sheetOk fs = true) : AscL fs ∧ (∀ f ∈ fs, ftOk1 f = true) ∧ fs.length ≤ 8 := by
  unfold sheetOk at h
  rw [Bool.and_eq_true, decide_eq_true_eq] at h
  have step : ∀ j, j + 1 < fs.length → fb fs j < fb fs (j + 1) := fun j hj => by
    have := featsGood_at h.1 hj
    simp [featGood] at this
    exact this.2
  have all : ∀ d i, i + d + 1 < fs.length → fb fs i < fb fs (i + d + 1) := by
    intro d
    induction d with
    | zero => exact fun i hi => step i hi
    | succ d ih => exact fun i hi => List.lt_trans (ih i (by omega)) (step _ hi)
  refine ⟨List.pairwise_iff_getElem.2 fun i j hi hj hij => ?_, fun f hf => ?_, h.2⟩
  · rw [← fb_kf hi, ← fb_kf hj]
    have := all (j - i - 1) i (by omega)
    rwa [show i + (j - i - 1) + 1 = j by omega] at this
  · obtain ⟨i, hi, rfl⟩ := List.getElem_of_mem hf
    have := featsGood_at h.1 hi
    unfold featGood at this
    rw [Bool.and_eq_true, ftOk_one hi] at this
    exact this.1

theorem ok_of_ascL {fs : List Ft} (h1 : AscL fs) (h2 : ∀ f ∈ fs, ftOk1 f = true) (h3 : fs.length ≤ 8) : sheetOk fs = true := by
  unfold sheetOk
  rw [Bool.and_eq_true, decide_eq_true_eq]
  refine ⟨featsGood_of fun j hj => ?_, h3⟩
  have ho : ftOk fs j = true := by rw [ftOk_one hj]; exact h2 _ (List.getElem_mem hj)
  by_cases h0 : 0 < j
  · have := List.pairwise_iff_getElem.1 h1 (j - 1) j (by omega) hj (by omega)
    rw [← fb_kf, ← fb_kf] at this
    have hn : ¬ fb fs j ≤ fb fs (j - 1) := fun hle => hle this
    simp [featGood, ho, hn]
  · simp [featGood, ho, h0]

theorem putHas_iff {fs : List Ft} {f : Ft} : putHas fs f = true ↔ sheetOk fs = true ∧ ftOk1 f = true ∧ (putL fs f).length ≤ 8 := by
  unfold putHas
  rw [Bool.and_eq_true, Bool.and_eq_true, decide_eq_true_eq, and_assoc]

theorem putRL_yes {fs : List Ft} {f : Ft} (h : putHas fs f = true) : putRL fs f = putL fs f := by unfold putRL; rw [if_pos h]

theorem putL_okS {s : List Ft} {f : Ft} (h : putHas s f = true) : sheetOk (putL s f) = true := by
  obtain ⟨h1, h2, h3⟩ := putHas_iff.1 h
  obtain ⟨q1, q2, _⟩ := ascL_of_ok h1
  refine ok_of_ascL (asc_putL f q1) (fun x hx => ?_) h3
  rcases (mem_putL x f s).1 hx with rfl | ⟨hx, _⟩
  · exact h2
  · exact q2 x hx

theorem two_same {s : List Ft} {f g : Ft} (h : putHas s f = true) (e : kf f = kf g) : putHas (putRL s f) g = putHas s g ∧ (putHas s g = true → putRL (putRL s f) g = putRL s g) := by
  rw [putRL_yes h]
  obtain ⟨h1, h2, h3⟩ := putHas_iff.1 h
  obtain ⟨q1, _, _⟩ := ascL_of_ok h1
  have hs := putL_same q1 e
  have hk := putL_okS h
  have he : putHas (putL s f) g = putHas s g := by
    unfold putHas
    rw [hk, h1, hs]
  exact ⟨he, fun hg => by rw [putRL_yes hg, putRL_yes (he.trans hg), hs]⟩

theorem two_diff {s : List Ft} {f g : Ft} (h : putHas s f = true) (e : kf f ≠ kf g) (ho : putHas (putRL s f) g = true) : putHas s g = true ∧ putHas (putRL s g) f = true ∧ putRL (putRL s f) g = putRL (putRL s g) f := by
  rw [putRL_yes h] at ho ⊢
  obtain ⟨h1, h2, h3⟩ := putHas_iff.1 h
  obtain ⟨q1, _, _⟩ := ascL_of_ok h1
  obtain ⟨o1, o2, o3⟩ := putHas_iff.1 ho
  have hc := putL_comm q1 e
  have hl : (putL s g).length ≤ 8 := by
    have := putL_len_ge f (asc_putL g q1)
    rw [← hc] at this
    omega
  have hg : putHas s g = true := putHas_iff.2 ⟨h1, o2, hl⟩
  rw [putRL_yes hg]
  have ht : putHas (putL s g) f = true := putHas_iff.2 ⟨putL_okS hg, h2, by rw [← hc]; exact o3⟩
  exact ⟨hg, ht, by rw [putRL_yes ho, putRL_yes ht, hc]⟩

theorem putRL_len (s : List Ft) (f : Ft) : (putRL s f).length ≤ s.length + 1 := by
  unfold putRL
  split
  · exact putL_len f s
  · exact Nat.zero_le _
theorem putRL_lens {s : List Ft} {f : Ft} {m : Int} (h : FeatsLen s m) (hf : FtLen f m) : FeatsLen (putRL s f) m := by
  unfold putRL
  split
  · exact putL_lens h hf
  · exact fun _ h => absurd h (Nat.not_lt_zero _)
end Go.Proofs.Ytelimcknhaflfaa

namespace Go.Proofs.Ytelimcknhaflfaa
set_option linter.unusedVariables false
open Go.ChangeShapes Go.WideShapes Go.ChangeAt Go.RowKit Go.Deep

set_option maxRecDepth 100000 in
set_option maxHeartbeats 4000000 in
theorem l3Copy_any (a : Option Addr) (cap : Nat) (fs : List Ft) (w : World) (hp : FeatsAt w a fs) (hl : fs.length ≤ 1048576) (hL : FeatsLen fs 1048576) (hpos : ∀ i, i < fs.length → 0 < (fps fs i).length) :
    Calls Try.prog 24 #[.slice a fs.length cap] w fun e w' => (∃ v, e = .returned v ∧ GotL w.heap.size w'.heap.size w' v fs) ∧ Below w.heap.size w w' := by
  obtain ⟨i0, hi, hz0, hz1, hz2⟩ := info_parts infoF
  have HI := Lib.hid hi
  have HZ0 := Lib.hid hz0
  have HZ1 := Lib.hid hz1
  have HZ2 := Lib.hid hz2
  have HP := Lib.hid hp
  have HL := Lib.hid hL
  have HQ := Lib.hid hpos
  clear hi hz0 hz1 hz2 hp hL hpos
  go_enter Try.func24, Try.ntmps24
  go_wp2
  go_loopw [3, 4] (fun s i wr => ∃ (k : Nat) (v : Value) (ad : Nat → Pl), k ≤ fs.length ∧ i = .int .i64 k ∧ v = s ∧ Row wr (fun x => w.heap.size ≤ x) w.heap.size v k fs ad ∧ Below w.heap.size w wr) (fun _ i _ => fs.length - (intOf i).toNat)
  case atStart => exact ⟨0, _, fun _ => ((none, 0), (none, 0)), Nat.zero_le _, rfl, rfl, ⟨World.ownsRow_made w #[] 0 (Nat.le_refl _) (by unfold maxLen; omega) rfl, fun _ h => absurd h (Nat.not_lt_zero _), fun _ h => absurd h (Nat.not_lt_zero _), fun _ h => absurd h (Nat.not_lt_zero _), fun _ h => absurd h (Nat.not_lt_zero _)⟩, (Below.refl _ _).alloc (Nat.le_refl _) _⟩
  case round =>
    obtain ⟨k, v, ad, hk, rfl, rfl, hro, hbel⟩ := hrel
    have hsz := hbel.size
    have HR := Lib.hid hro
    have HB := Lib.hid hbel
    by_cases hlt : k < fs.length
    · obtain ⟨b, off, pa, pc, ta, tc, rfl, hb, hc1, hc2, hc3, hc4, hpp, htt⟩ := HP.out k hlt
      rw [← hbel.cell (p := ⟨b, _, none⟩) hb] at hc1 hc2 hc3 hc4
      obtain ⟨l1, l2, l3, _⟩ := HL.out k hlt
      have h0 := HQ.out k hlt
      have D1 := Lib.hid (hpp.below hbel)
      have D2 := Lib.hid (htt.below hbel)
      have HV : Hid (∀ x, v.ownBlock = some x → w.heap.size ≤ x ∧ x < wr.heap.size) := fun x hx => hro.row.lt x hx
      clear hro hbel hpp htt
      go_wp2_with fail
      refine (l2Copy_got _ _ _ _ _ _ _ _ _ D1.out D2.out (by omega) h0 (by omega)).mono ?_
      rintro e w3 ⟨⟨v3, rfl, hg3⟩, hb3⟩
      obtain ⟨qa, qc, sa, sc, rfl, q1, q2, q3, q4⟩ := hg3
      have E1 := Lib.hid q1
      have E2 := Lib.hid q2
      have E3 := Lib.hid q3
      have E4 := Lib.hid q4
      have B3 := Lib.hid hb3
      have R3 : Hid (w3.ownsRow w.heap.size 29 4 v k (flatF fs ad k)) := ownsRow_below HR.out.row hb3
      have hz3 := hb3.size
      have A3 : Hid (∀ o, Below w3.heap.size w3 (w3.alloc o)) := fun o => (Below.refl _ _).alloc (Nat.le_refl _) _
      clear hb3 q1 q2 q3 q4 hc1 hc2 hc3 hc4
      go_wp2_with (at_builtin; refine wpList_append_lies _ (by rfl) _ _ _ (by rfl) w.heap.size 29 i0 _ 4 72 Try.underlying23 HI.out HZ0.out HZ1.out HZ2.out rfl (by omega) v k (flatF fs ad k) (by rfl) (R3.out.alloc _) ⟨w3.heap.size, 0, none⟩ 1 1 (cellsF (fg fs k) ((qa, qc), (sa, sc))) (by rfl) (by rfl) (World.news_of_block (cs := #[.string (fid fs k), .int .i64 (fkd fs k), .slice qa (fps fs k).length qc, .slice sa (fts fs k).length sc]) (t := 29) (fr := (0, 0)) (heap_alloc_new w3 _)) (by simp [Value.oneCell', cellsF]) (by omega) (by unfold maxLen; omega) (by omega) (by simp; omega) (w3.heap.size + 1) (by simp) ?_; intro gg cap' wa hown1 hgrow hat hlt')
      have HS : Hid (Row wa (fun x => w.heap.size ≤ x) w.heap.size (.slice (some ⟨gg, 0, none⟩) (k + 1) cap') (k + 1) fs (plSet ad k ((qa, qc), (sa, sc)))) := by
        refine HR.out.step B3.out (A3.out _) (by simp) E1.out ?_ E2.out ?_ hown1 hgrow hat
        · exact E3.out.imp (fun h => h) fun q x hx => ⟨by have := (q x hx).1; omega, (q x hx).2, fun e => by have h1 := (HV.out x e).2; have h2 := (q x hx).1; omega⟩
        · exact E4.out.imp (fun h => h) fun q x hx => ⟨by have := (q x hx).1; omega, (q x hx).2, fun e => by have h1 := (HV.out x e).2; have h2 := (q x hx).1; omega⟩
      have HG := Lib.hid hgrow
      clear hown1 hgrow hat
      go_roundw
      case rel => exact ⟨k + 1, _, _, by omega, by go_num, rfl, HS.out, ((HB.out.trans (B3.out.mono hsz)).alloc (by omega) _).grown HG.out (by simp; omega) (fun x hx => (HV.out x hx).1)⟩
      case measure => simp [intOf]; omega
    · obtain rfl : k = fs.length := by omega
      have HG := Lib.hid HR.out.got
      clear hro hbel
      go_wp2
      go_ret
      exact ⟨⟨v, rfl, HG.out⟩, HB.out⟩

theorem cutL_pos {fs : List Ft} (id : ByteArray) (hok : sheetOk fs = true) : ∀ i, i < (cutL fs id).length → 0 < (fps (cutL fs id) i).length := by
  intro i hi
  have hm : (cutL fs id)[i] ∈ fs := (List.mem_filter.1 (List.getElem_mem hi)).1
  obtain ⟨j, hj, e⟩ := List.getElem_of_mem hm
  have := ftOk_pts (good_ok hok hj)
  unfold fps at this ⊢
  rwa [fg_get hi, ← e, ← fg_get hj]

end Go.Proofs.Ytelimcknhaflfaa

namespace Go.Proofs.Ytelimcknhaflfaa
set_option linter.unusedVariables false
open Go.ChangeShapes Go.WideShapes Go.ChangeAt Go.RowKit Go.Deep

set_option maxRecDepth 100000 in
set_option maxHeartbeats 8000000 in
theorem l3Put_any (a : Option Addr) (cap : Nat) (fs : List Ft) (f : Ft) (pf tf : Option Addr) (pfc tfc : Nat) (w : World) (hp : FeatsAt w a fs) (hl : fs.length ≤ 1048576) (hpf : PtsAt w pf f.2.2.1) (htf : TagsAt w tf f.2.2.2) :
    Calls Try.prog 21 #[.slice a fs.length cap, .agg #[.string f.1, .int .i64 f.2.1, .slice pf f.2.2.1.length pfc, .slice tf f.2.2.2.length tfc]] w fun e w' => (∃ a' cap', e = .returned (.slice a' (putL fs f).length cap') ∧ FeatsAt w' a' (putL fs f)) ∧ Below w.heap.size w w' := by
  obtain ⟨i0, hi, hz0, hz1, hz2⟩ := info_parts infoF
  have HI := Lib.hid hi
  have HZ0 := Lib.hid hz0
  have HZ1 := Lib.hid hz1
  have HZ2 := Lib.hid hz2
  have HP := Lib.hid hp
  have FP := Lib.hid hpf
  have FT := Lib.hid htf
  have PF := Lib.hid (pts_low hpf)
  have TF := Lib.hid (tags_low htf)
  clear hi hz0 hz1 hz2 hp hpf htf
  go_enter Try.func21, Try.ntmps21
  go_wp2
  go_loopw [5, 6, 7] (fun s d i wr => ∃ (j : Nat) (v : Value) (o : List Ft) (q : Bool) (ad : Nat → Pl), j ≤ fs.length ∧ i = .int .i64 j ∧ d = .bool q ∧ v = s ∧ PutsL fs f j o q ∧ o.length ≤ j + q.toNat ∧ Row wr (fun x => x < w.heap.size) (w.heap.size + 1) v o.length o ad ∧ Box4 wr w.heap.size (.string f.1) (.int .i64 f.2.1) (.slice pf f.2.2.1.length pfc) (.slice tf f.2.2.2.length tfc) ∧ Below w.heap.size w wr) (fun _ _ i _ => fs.length - (intOf i).toNat)
  case atStart =>
    have hro := World.ownsRow_made (w.alloc (.cells #[.string f.1, .int .i64 f.2.1, .slice pf f.2.2.1.length pfc, .slice tf f.2.2.2.length tfc] 29)) #[] 0 (base := w.heap.size + 1) (by simp) (by unfold maxLen; omega) (e := 29) (size := 4) (by simp)
    refine ⟨0, _, [], false, fun _ => ((none, 0), (none, 0)), Nat.zero_le _, rfl, rfl, rfl, PutsL.start _ _, by simp, ⟨by simpa [flatF] using hro, fun _ h => absurd h (Nat.not_lt_zero _), fun _ h => absurd h (Nat.not_lt_zero _), fun _ h => absurd h (Nat.not_lt_zero _), fun _ h => absurd h (Nat.not_lt_zero _)⟩, (Box4.new w _ _ _ _ _).alloc _, ((Below.refl _ _).alloc (Nat.le_refl _) _).alloc (by simp) _⟩
  case round =>
    obtain ⟨j, v, o, q, ad, hj, rfl, rfl, rfl, hP, hol, hro, hbox, hbel⟩ := hrel
    have HR := Lib.hid hro
    have HBX := Lib.hid hbox
    have HB := Lib.hid hbel
    have hsz : w.heap.size < wr.heap.size := hbox.lt
    have HV : Hid (∀ x, v.ownBlock = some x → w.heap.size + 1 ≤ x) := fun x hx => (hro.row.lt x hx).1
    have hol' : o.length ≤ j + 1 := by cases q <;> simp at hol <;> omega
    have FPr := Lib.hid (FP.out.below hbel)
    have FTr := Lib.hid (FT.out.below hbel)
    obtain ⟨x0, x1, x2, x3⟩ := hbox
    by_cases hlt : j < fs.length
    · obtain ⟨b, off, pa, pc, ta, tc, rfl, hb, hc1, hc2, hc3, hc4, hpp, htt⟩ := HP.out j hlt
      rw [← hbel.cell (p := ⟨b, _, none⟩) hb] at hc1 hc2 hc3 hc4
      have hst := hP.step hlt
      have PL := Lib.hid (pts_low hpp)
      have TL := Lib.hid (tags_low htt)
      have D1 := Lib.hid (hpp.below hbel)
      have D2 := Lib.hid (htt.below hbel)
      clear hro hbel hP hpp htt
      have hblt : b < wr.heap.size := by omega
      have nbw : ¬ b = w.heap.size := by omega
      by_cases he : fid fs j = f.1
      · have hk : kf (fg fs j) = kf f := kf_eq.2 he
        have e2 := bytes_beq (fid fs j) f.1
        rw [decide_eq_true he] at e2
        have e1 : Op.bytesLess (fid fs j).toList f.1.toList = false := less_not (by show ¬ kf (fg fs j) < kf f; rw [hk]; exact List.lt_irrefl _)
        have hle : kf f ≤ kf (fg fs j) := by rw [hk]; exact List.le_refl _
        cases q
        · replace hol : o.length ≤ j := hol
          have HS : Hid (PutsL fs f (j + 1) (o ++ [f]) true) := by simpa [Hid, hle, hk] using hst
          clear hst he hle hk
          go_wp2
          go_quiet (fail)
          have Bq : Below wr.heap.size wr (wr.drewN nq) := below_drewN (Below.refl _ _) nq
          have zq : (wr.drewN nq).heap.size = wr.heap.size := rfl
          generalize wr.drewN nq = W1 at *
          replace HR := Lib.hid (HR.out.below Bq)
          replace HBX := Lib.hid (HBX.out.later Bq)
          replace HB := Lib.hid (HB.out.trans (Bq.mono HB.out.size))
          replace FPr := Lib.hid (FPr.out.below Bq)
          replace FTr := Lib.hid (FTr.out.below Bq)
          replace D1 := Lib.hid (D1.out.below Bq)
          replace D2 := Lib.hid (D2.out.below Bq)
          replace hc1 := cell_later Bq hc1
          replace hc2 := cell_later Bq hc2
          replace hc3 := cell_later Bq hc3
          replace hc4 := cell_later Bq hc4
          replace x0 := cell_later Bq x0
          replace x1 := cell_later Bq x1
          replace x2 := cell_later Bq x2
          replace x3 := cell_later Bq x3
          replace hsz : w.heap.size < W1.heap.size := by omega
          replace hblt : b < W1.heap.size := by omega
          clear Bq zq
          have ROW := Lib.hid HR.out.row
          go_wp2_with (at_builtin; refine wpList_append_lies _ (by rfl) _ _ _ (by rfl) (w.heap.size + 1) 29 i0 _ 4 72 Try.underlying23 HI.out HZ0.out HZ1.out HZ2.out rfl (by omega) (v) (o.length) (flatF (o) ad (o.length)) (by rfl) (ROW.out.alloc _) ⟨W1.heap.size, 0, none⟩ 1 1 (cellsF f ((pf, pfc), (tf, tfc))) (by rfl) (by rfl) (World.news_of_block (cs := #[.string f.1, .int .i64 f.2.1, .slice pf f.2.2.1.length pfc, .slice tf f.2.2.2.length tfc]) (t := 29) (fr := (0, 0)) (heap_alloc_new W1 _)) (by simp [Value.oneCell', cellsF]) (by omega) (by unfold maxLen; omega) (by omega) (by simp; omega) (W1.heap.size + 1) (by simp) ?_; intro gg1 cap1 wa1 hown1 hgrow1 hat1 hlt1; clear ROW; have vw : (v).ownBlock ≠ some w.heap.size := (fun e => by have := HV.out _ e; omega); replace HR : Hid (Row wa1 (fun x => x < w.heap.size) (w.heap.size + 1) (Value.slice (some ⟨gg1, 0, none⟩) (o.length + 1) cap1) (o ++ [f]).length (o ++ [f]) (plSet ad (o.length) ((pf, pfc), (tf, tfc)))) := HR.out.snoc FPr.out (PF.out.imp (fun h => h) fun q x hx => ⟨q x hx, by have := q x hx; omega, fun e => by have h1 := HV.out x e; have h2 := q x hx; omega⟩) FTr.out (TF.out.imp (fun h => h) fun q x hx => ⟨q x hx, by have := q x hx; omega, fun e => by have h1 := HV.out x e; have h2 := q x hx; omega⟩) (by simpa using hown1) hgrow1 hat1; replace HBX := Lib.hid (BoxF.grown HBX.out hgrow1 vw); replace HB : Hid (Below w.heap.size w wa1) := (HB.out.alloc HB.out.size _).grown hgrow1 (by simp; omega) (fun x hx => by have := HV.out x hx; omega); have vb : (v).ownBlock ≠ some b := (fun e => by have := HV.out b e; omega); replace hc1 := HGF_cell hgrow1 hblt hc1 vb; replace hc2 := HGF_cell hgrow1 hblt hc2 vb; replace hc3 := HGF_cell hgrow1 hblt hc3 vb; replace hc4 := HGF_cell hgrow1 hblt hc4 vb; replace x0 := HGF_cell hgrow1 hsz x0 vw; replace x1 := HGF_cell hgrow1 hsz x1 vw; replace x2 := HGF_cell hgrow1 hsz x2 vw; replace x3 := HGF_cell hgrow1 hsz x3 vw; replace D1 := Lib.hid (PtsKeep D1.out hgrow1 (PL.out.imp (fun h => h) fun q x hx e => by have h1 := q x hx; have h2 := HV.out x e; omega)); replace D2 := Lib.hid (TagsKeep D2.out hgrow1 (TL.out.imp (fun h => h) fun q x hx e => by have h1 := q x hx; have h2 := HV.out x e; omega)); replace FPr := Lib.hid (PtsKeep FPr.out hgrow1 (PF.out.imp (fun h => h) fun q x hx e => by have h1 := q x hx; have h2 := HV.out x e; omega)); replace FTr := Lib.hid (TagsKeep FTr.out hgrow1 (TF.out.imp (fun h => h) fun q x hx e => by have h1 := q x hx; have h2 := HV.out x e; omega)); have hszA : W1.heap.size < wa1.heap.size := (by have h := hgrow1.size; simp at h; omega); replace hsz : w.heap.size < wa1.heap.size := (by omega); replace hblt : b < wa1.heap.size := (by omega); replace HV : Hid (∀ x, (Value.slice (some ⟨gg1, 0, none⟩) (o.length + 1) cap1).ownBlock = some x → w.heap.size + 1 ≤ x) := (fun x e => (hown1.lt x e).1); clear vb; clear hown1 hgrow1 hat1 vw)
          go_wp2
          go_quiet (fail)
          have Bq : Below wa1.heap.size wa1 (wa1.drewN nq) := below_drewN (Below.refl _ _) nq
          have zq : (wa1.drewN nq).heap.size = wa1.heap.size := rfl
          generalize wa1.drewN nq = W2 at *
          replace HR := Lib.hid (HR.out.below Bq)
          replace HBX := Lib.hid (HBX.out.later Bq)
          replace HB := Lib.hid (HB.out.trans (Bq.mono HB.out.size))
          replace FPr := Lib.hid (FPr.out.below Bq)
          replace FTr := Lib.hid (FTr.out.below Bq)
          replace D1 := Lib.hid (D1.out.below Bq)
          replace D2 := Lib.hid (D2.out.below Bq)
          replace hc1 := cell_later Bq hc1
          replace hc2 := cell_later Bq hc2
          replace hc3 := cell_later Bq hc3
          replace hc4 := cell_later Bq hc4
          replace x0 := cell_later Bq x0
          replace x1 := cell_later Bq x1
          replace x2 := cell_later Bq x2
          replace x3 := cell_later Bq x3
          replace hsz : w.heap.size < W2.heap.size := by omega
          replace hblt : b < W2.heap.size := by omega
          clear Bq zq
          go_wp2
          go_roundw
          case rel => exact ⟨j + 1, _, o ++ [f], _, _, by omega, by go_num, rfl, rfl, HS.out, by simp; omega, HR.out, HBX.out, HB.out⟩
          case measure => simp [intOf]; omega
        · have HS : Hid (PutsL fs f (j + 1) o true) := by simpa [Hid, hk] using hst
          clear hst he hle hk
          go_wp2
          go_quiet (fail)
          have Bq : Below wr.heap.size wr (wr.drewN nq) := below_drewN (Below.refl _ _) nq
          have zq : (wr.drewN nq).heap.size = wr.heap.size := rfl
          generalize wr.drewN nq = W1 at *
          replace HR := Lib.hid (HR.out.below Bq)
          replace HBX := Lib.hid (HBX.out.later Bq)
          replace HB := Lib.hid (HB.out.trans (Bq.mono HB.out.size))
          replace FPr := Lib.hid (FPr.out.below Bq)
          replace FTr := Lib.hid (FTr.out.below Bq)
          replace D1 := Lib.hid (D1.out.below Bq)
          replace D2 := Lib.hid (D2.out.below Bq)
          replace hc1 := cell_later Bq hc1
          replace hc2 := cell_later Bq hc2
          replace hc3 := cell_later Bq hc3
          replace hc4 := cell_later Bq hc4
          replace x0 := cell_later Bq x0
          replace x1 := cell_later Bq x1
          replace x2 := cell_later Bq x2
          replace x3 := cell_later Bq x3
          replace hsz : w.heap.size < W1.heap.size := by omega
          replace hblt : b < W1.heap.size := by omega
          clear Bq zq
          go_wp2
          go_quiet (fail)
          have Bq : Below W1.heap.size W1 (W1.drewN nq) := below_drewN (Below.refl _ _) nq
          have zq : (W1.drewN nq).heap.size = W1.heap.size := rfl
          generalize W1.drewN nq = W2 at *
          replace HR := Lib.hid (HR.out.below Bq)
          replace HBX := Lib.hid (HBX.out.later Bq)
          replace HB := Lib.hid (HB.out.trans (Bq.mono HB.out.size))
          replace FPr := Lib.hid (FPr.out.below Bq)
          replace FTr := Lib.hid (FTr.out.below Bq)
          replace D1 := Lib.hid (D1.out.below Bq)
          replace D2 := Lib.hid (D2.out.below Bq)
          replace hc1 := cell_later Bq hc1
          replace hc2 := cell_later Bq hc2
          replace hc3 := cell_later Bq hc3
          replace hc4 := cell_later Bq hc4
          replace x0 := cell_later Bq x0
          replace x1 := cell_later Bq x1
          replace x2 := cell_later Bq x2
          replace x3 := cell_later Bq x3
          replace hsz : w.heap.size < W2.heap.size := by omega
          replace hblt : b < W2.heap.size := by omega
          clear Bq zq
          go_wp2
          go_roundw
          case rel => exact ⟨j + 1, _, o, _, _, by omega, by go_num, rfl, rfl, HS.out, by simp at hol ⊢; omega, HR.out, HBX.out, HB.out⟩
          case measure => simp [intOf]; omega
      · have hk : ¬ kf (fg fs j) = kf f := fun h => he (kf_eq.1 h)
        have e2 := bytes_beq (fid fs j) f.1
        rw [decide_eq_false he] at e2
        by_cases hq : kf (fg fs j) < kf f
        · have e1 : Op.bytesLess (fid fs j).toList f.1.toList = true := less_of hq
          have hle : ¬ kf f ≤ kf (fg fs j) := fun h => h hq
          have HS : Hid (PutsL fs f (j + 1) (o ++ [fg fs j]) q) := by simpa [Hid, hle, hk] using hst
          clear hst he hle hq hk
          cases q
          · replace hol : o.length ≤ j := hol
            go_wp2
            go_quiet (fail)
            have Bq : Below wr.heap.size wr (wr.drewN nq) := below_drewN (Below.refl _ _) nq
            have zq : (wr.drewN nq).heap.size = wr.heap.size := rfl
            generalize wr.drewN nq = W1 at *
            replace HR := Lib.hid (HR.out.below Bq)
            replace HBX := Lib.hid (HBX.out.later Bq)
            replace HB := Lib.hid (HB.out.trans (Bq.mono HB.out.size))
            replace FPr := Lib.hid (FPr.out.below Bq)
            replace FTr := Lib.hid (FTr.out.below Bq)
            replace D1 := Lib.hid (D1.out.below Bq)
            replace D2 := Lib.hid (D2.out.below Bq)
            replace hc1 := cell_later Bq hc1
            replace hc2 := cell_later Bq hc2
            replace hc3 := cell_later Bq hc3
            replace hc4 := cell_later Bq hc4
            replace x0 := cell_later Bq x0
            replace x1 := cell_later Bq x1
            replace x2 := cell_later Bq x2
            replace x3 := cell_later Bq x3
            replace hsz : w.heap.size < W1.heap.size := by omega
            replace hblt : b < W1.heap.size := by omega
            clear Bq zq
            go_wp2
            go_quiet (fail)
            have Bq : Below W1.heap.size W1 (W1.drewN nq) := below_drewN (Below.refl _ _) nq
            have zq : (W1.drewN nq).heap.size = W1.heap.size := rfl
            generalize W1.drewN nq = W2 at *
            replace HR := Lib.hid (HR.out.below Bq)
            replace HBX := Lib.hid (HBX.out.later Bq)
            replace HB := Lib.hid (HB.out.trans (Bq.mono HB.out.size))
            replace FPr := Lib.hid (FPr.out.below Bq)
            replace FTr := Lib.hid (FTr.out.below Bq)
            replace D1 := Lib.hid (D1.out.below Bq)
            replace D2 := Lib.hid (D2.out.below Bq)
            replace hc1 := cell_later Bq hc1
            replace hc2 := cell_later Bq hc2
            replace hc3 := cell_later Bq hc3
            replace hc4 := cell_later Bq hc4
            replace x0 := cell_later Bq x0
            replace x1 := cell_later Bq x1
            replace x2 := cell_later Bq x2
            replace x3 := cell_later Bq x3
            replace hsz : w.heap.size < W2.heap.size := by omega
            replace hblt : b < W2.heap.size := by omega
            clear Bq zq
            have ROW := Lib.hid HR.out.row
            go_wp2_with (at_builtin; refine wpList_append_lies _ (by rfl) _ _ _ (by rfl) (w.heap.size + 1) 29 i0 _ 4 72 Try.underlying23 HI.out HZ0.out HZ1.out HZ2.out rfl (by omega) (v) (o.length) (flatF (o) ad (o.length)) (by rfl) (ROW.out.alloc _) ⟨W2.heap.size, 0, none⟩ 1 1 (cellsF (fg fs j) ((pa, pc), (ta, tc))) (by rfl) (by rfl) (World.news_of_block (cs := #[.string (fid fs j), .int .i64 (fkd fs j), .slice pa (fps fs j).length pc, .slice ta (fts fs j).length tc]) (t := 29) (fr := (0, 0)) (heap_alloc_new W2 _)) (by simp [Value.oneCell', cellsF]) (by omega) (by unfold maxLen; omega) (by omega) (by simp; omega) (W2.heap.size + 1) (by simp) ?_; intro gg2 cap2 wa2 hown2 hgrow2 hat2 hlt2; clear ROW; have vw : (v).ownBlock ≠ some w.heap.size := (fun e => by have := HV.out _ e; omega); replace HR : Hid (Row wa2 (fun x => x < w.heap.size) (w.heap.size + 1) (Value.slice (some ⟨gg2, 0, none⟩) (o.length + 1) cap2) (o ++ [(fg fs j)]).length (o ++ [(fg fs j)]) (plSet ad (o.length) ((pa, pc), (ta, tc)))) := HR.out.snoc D1.out (PL.out.imp (fun h => h) fun q x hx => ⟨q x hx, by have := q x hx; omega, fun e => by have h1 := HV.out x e; have h2 := q x hx; omega⟩) D2.out (TL.out.imp (fun h => h) fun q x hx => ⟨q x hx, by have := q x hx; omega, fun e => by have h1 := HV.out x e; have h2 := q x hx; omega⟩) (by simpa using hown2) hgrow2 hat2; replace HBX := Lib.hid (BoxF.grown HBX.out hgrow2 vw); replace HB : Hid (Below w.heap.size w wa2) := (HB.out.alloc HB.out.size _).grown hgrow2 (by simp; omega) (fun x hx => by have := HV.out x hx; omega); clear hown2 hgrow2 hat2 vw)
            go_roundw
            case rel => exact ⟨j + 1, _, o ++ [fg fs j], _, _, by omega, by go_num, rfl, rfl, HS.out, by simp; omega, HR.out, HBX.out, HB.out⟩
            case measure => simp [intOf]; omega
          · replace hol : o.length ≤ j + 1 := hol
            go_wp2
            go_quiet (fail)
            have Bq : Below wr.heap.size wr (wr.drewN nq) := below_drewN (Below.refl _ _) nq
            have zq : (wr.drewN nq).heap.size = wr.heap.size := rfl
            generalize wr.drewN nq = W1 at *
            replace HR := Lib.hid (HR.out.below Bq)
            replace HBX := Lib.hid (HBX.out.later Bq)
            replace HB := Lib.hid (HB.out.trans (Bq.mono HB.out.size))
            replace FPr := Lib.hid (FPr.out.below Bq)
            replace FTr := Lib.hid (FTr.out.below Bq)
            replace D1 := Lib.hid (D1.out.below Bq)
            replace D2 := Lib.hid (D2.out.below Bq)
            replace hc1 := cell_later Bq hc1
            replace hc2 := cell_later Bq hc2
            replace hc3 := cell_later Bq hc3
            replace hc4 := cell_later Bq hc4
            replace x0 := cell_later Bq x0
            replace x1 := cell_later Bq x1
            replace x2 := cell_later Bq x2
            replace x3 := cell_later Bq x3
            replace hsz : w.heap.size < W1.heap.size := by omega
            replace hblt : b < W1.heap.size := by omega
            clear Bq zq
            go_wp2
            go_quiet (fail)
            have Bq : Below W1.heap.size W1 (W1.drewN nq) := below_drewN (Below.refl _ _) nq
            have zq : (W1.drewN nq).heap.size = W1.heap.size := rfl
            generalize W1.drewN nq = W2 at *
            replace HR := Lib.hid (HR.out.below Bq)
            replace HBX := Lib.hid (HBX.out.later Bq)
            replace HB := Lib.hid (HB.out.trans (Bq.mono HB.out.size))
            replace FPr := Lib.hid (FPr.out.below Bq)
            replace FTr := Lib.hid (FTr.out.below Bq)
            replace D1 := Lib.hid (D1.out.below Bq)
            replace D2 := Lib.hid (D2.out.below Bq)
            replace hc1 := cell_later Bq hc1
            replace hc2 := cell_later Bq hc2
            replace hc3 := cell_later Bq hc3
            replace hc4 := cell_later Bq hc4
            replace x0 := cell_later Bq x0
            replace x1 := cell_later Bq x1
            replace x2 := cell_later Bq x2
            replace x3 := cell_later Bq x3
            replace hsz : w.heap.size < W2.heap.size := by omega
            replace hblt : b < W2.heap.size := by omega
            clear Bq zq
            have ROW := Lib.hid HR.out.row
            go_wp2_with (at_builtin; refine wpList_append_lies _ (by rfl) _ _ _ (by rfl) (w.heap.size + 1) 29 i0 _ 4 72 Try.underlying23 HI.out HZ0.out HZ1.out HZ2.out rfl (by omega) (v) (o.length) (flatF (o) ad (o.length)) (by rfl) (ROW.out.alloc _) ⟨W2.heap.size, 0, none⟩ 1 1 (cellsF (fg fs j) ((pa, pc), (ta, tc))) (by rfl) (by rfl) (World.news_of_block (cs := #[.string (fid fs j), .int .i64 (fkd fs j), .slice pa (fps fs j).length pc, .slice ta (fts fs j).length tc]) (t := 29) (fr := (0, 0)) (heap_alloc_new W2 _)) (by simp [Value.oneCell', cellsF]) (by omega) (by unfold maxLen; omega) (by omega) (by simp; omega) (W2.heap.size + 1) (by simp) ?_; intro gg2 cap2 wa2 hown2 hgrow2 hat2 hlt2; clear ROW; have vw : (v).ownBlock ≠ some w.heap.size := (fun e => by have := HV.out _ e; omega); replace HR : Hid (Row wa2 (fun x => x < w.heap.size) (w.heap.size + 1) (Value.slice (some ⟨gg2, 0, none⟩) (o.length + 1) cap2) (o ++ [(fg fs j)]).length (o ++ [(fg fs j)]) (plSet ad (o.length) ((pa, pc), (ta, tc)))) := HR.out.snoc D1.out (PL.out.imp (fun h => h) fun q x hx => ⟨q x hx, by have := q x hx; omega, fun e => by have h1 := HV.out x e; have h2 := q x hx; omega⟩) D2.out (TL.out.imp (fun h => h) fun q x hx => ⟨q x hx, by have := q x hx; omega, fun e => by have h1 := HV.out x e; have h2 := q x hx; omega⟩) (by simpa using hown2) hgrow2 hat2; replace HBX := Lib.hid (BoxF.grown HBX.out hgrow2 vw); replace HB : Hid (Below w.heap.size w wa2) := (HB.out.alloc HB.out.size _).grown hgrow2 (by simp; omega) (fun x hx => by have := HV.out x hx; omega); clear hown2 hgrow2 hat2 vw)
            go_roundw
            case rel => exact ⟨j + 1, _, o ++ [fg fs j], _, _, by omega, by go_num, rfl, rfl, HS.out, by simp; omega, HR.out, HBX.out, HB.out⟩
            case measure => simp [intOf]; omega
        · have e1 : Op.bytesLess (fid fs j).toList f.1.toList = false := less_not hq
          have hle : kf f ≤ kf (fg fs j) := hq
          cases q
          · replace hol : o.length ≤ j := hol
            have HS : Hid (PutsL fs f (j + 1) (o ++ [f] ++ [fg fs j]) true) := by simpa [Hid, hle, hk] using hst
            clear hst he hle hq hk
            go_wp2
            go_quiet (fail)
            have Bq : Below wr.heap.size wr (wr.drewN nq) := below_drewN (Below.refl _ _) nq
            have zq : (wr.drewN nq).heap.size = wr.heap.size := rfl
            generalize wr.drewN nq = W1 at *
            replace HR := Lib.hid (HR.out.below Bq)
            replace HBX := Lib.hid (HBX.out.later Bq)
            replace HB := Lib.hid (HB.out.trans (Bq.mono HB.out.size))
            replace FPr := Lib.hid (FPr.out.below Bq)
            replace FTr := Lib.hid (FTr.out.below Bq)
            replace D1 := Lib.hid (D1.out.below Bq)
            replace D2 := Lib.hid (D2.out.below Bq)
            replace hc1 := cell_later Bq hc1
            replace hc2 := cell_later Bq hc2
            replace hc3 := cell_later Bq hc3
            replace hc4 := cell_later Bq hc4
            replace x0 := cell_later Bq x0
            replace x1 := cell_later Bq x1
            replace x2 := cell_later Bq x2
            replace x3 := cell_later Bq x3
            replace hsz : w.heap.size < W1.heap.size := by omega
            replace hblt : b < W1.heap.size := by omega
            clear Bq zq
            have ROW := Lib.hid HR.out.row
            go_wp2_with (at_builtin; refine wpList_append_lies _ (by rfl) _ _ _ (by rfl) (w.heap.size + 1) 29 i0 _ 4 72 Try.underlying23 HI.out HZ0.out HZ1.out HZ2.out rfl (by omega) (v) (o.length) (flatF (o) ad (o.length)) (by rfl) (ROW.out.alloc _) ⟨W1.heap.size, 0, none⟩ 1 1 (cellsF f ((pf, pfc), (tf, tfc))) (by rfl) (by rfl) (World.news_of_block (cs := #[.string f.1, .int .i64 f.2.1, .slice pf f.2.2.1.length pfc, .slice tf f.2.2.2.length tfc]) (t := 29) (fr := (0, 0)) (heap_alloc_new W1 _)) (by simp [Value.oneCell', cellsF]) (by omega) (by unfold maxLen; omega) (by omega) (by simp; omega) (W1.heap.size + 1) (by simp) ?_; intro gg1 cap1 wa1 hown1 hgrow1 hat1 hlt1; clear ROW; have vw : (v).ownBlock ≠ some w.heap.size := (fun e => by have := HV.out _ e; omega); replace HR : Hid (Row wa1 (fun x => x < w.heap.size) (w.heap.size + 1) (Value.slice (some ⟨gg1, 0, none⟩) (o.length + 1) cap1) (o ++ [f]).length (o ++ [f]) (plSet ad (o.length) ((pf, pfc), (tf, tfc)))) := HR.out.snoc FPr.out (PF.out.imp (fun h => h) fun q x hx => ⟨q x hx, by have := q x hx; omega, fun e => by have h1 := HV.out x e; have h2 := q x hx; omega⟩) FTr.out (TF.out.imp (fun h => h) fun q x hx => ⟨q x hx, by have := q x hx; omega, fun e => by have h1 := HV.out x e; have h2 := q x hx; omega⟩) (by simpa using hown1) hgrow1 hat1; replace HBX := Lib.hid (BoxF.grown HBX.out hgrow1 vw); replace HB : Hid (Below w.heap.size w wa1) := (HB.out.alloc HB.out.size _).grown hgrow1 (by simp; omega) (fun x hx => by have := HV.out x hx; omega); have vb : (v).ownBlock ≠ some b := (fun e => by have := HV.out b e; omega); replace hc1 := HGF_cell hgrow1 hblt hc1 vb; replace hc2 := HGF_cell hgrow1 hblt hc2 vb; replace hc3 := HGF_cell hgrow1 hblt hc3 vb; replace hc4 := HGF_cell hgrow1 hblt hc4 vb; replace x0 := HGF_cell hgrow1 hsz x0 vw; replace x1 := HGF_cell hgrow1 hsz x1 vw; replace x2 := HGF_cell hgrow1 hsz x2 vw; replace x3 := HGF_cell hgrow1 hsz x3 vw; replace D1 := Lib.hid (PtsKeep D1.out hgrow1 (PL.out.imp (fun h => h) fun q x hx e => by have h1 := q x hx; have h2 := HV.out x e; omega)); replace D2 := Lib.hid (TagsKeep D2.out hgrow1 (TL.out.imp (fun h => h) fun q x hx e => by have h1 := q x hx; have h2 := HV.out x e; omega)); replace FPr := Lib.hid (PtsKeep FPr.out hgrow1 (PF.out.imp (fun h => h) fun q x hx e => by have h1 := q x hx; have h2 := HV.out x e; omega)); replace FTr := Lib.hid (TagsKeep FTr.out hgrow1 (TF.out.imp (fun h => h) fun q x hx e => by have h1 := q x hx; have h2 := HV.out x e; omega)); have hszA : W1.heap.size < wa1.heap.size := (by have h := hgrow1.size; simp at h; omega); replace hsz : w.heap.size < wa1.heap.size := (by omega); replace hblt : b < wa1.heap.size := (by omega); replace HV : Hid (∀ x, (Value.slice (some ⟨gg1, 0, none⟩) (o.length + 1) cap1).ownBlock = some x → w.heap.size + 1 ≤ x) := (fun x e => (hown1.lt x e).1); clear vb; clear hown1 hgrow1 hat1 vw)
            go_wp2
            go_quiet (fail)
            have Bq : Below wa1.heap.size wa1 (wa1.drewN nq) := below_drewN (Below.refl _ _) nq
            have zq : (wa1.drewN nq).heap.size = wa1.heap.size := rfl
            generalize wa1.drewN nq = W2 at *
            replace HR := Lib.hid (HR.out.below Bq)
            replace HBX := Lib.hid (HBX.out.later Bq)
            replace HB := Lib.hid (HB.out.trans (Bq.mono HB.out.size))
            replace FPr := Lib.hid (FPr.out.below Bq)
            replace FTr := Lib.hid (FTr.out.below Bq)
            replace D1 := Lib.hid (D1.out.below Bq)
            replace D2 := Lib.hid (D2.out.below Bq)
            replace hc1 := cell_later Bq hc1
            replace hc2 := cell_later Bq hc2
            replace hc3 := cell_later Bq hc3
            replace hc4 := cell_later Bq hc4
            replace x0 := cell_later Bq x0
            replace x1 := cell_later Bq x1
            replace x2 := cell_later Bq x2
            replace x3 := cell_later Bq x3
            replace hsz : w.heap.size < W2.heap.size := by omega
            replace hblt : b < W2.heap.size := by omega
            clear Bq zq
            have hROW := HR.out.row
            rw [show (o ++ [f]).length = o.length + 1 by simp] at hROW
            have ROW := Lib.hid hROW
            clear hROW
            go_wp2_with (at_builtin; refine wpList_append_lies _ (by rfl) _ _ _ (by rfl) (w.heap.size + 1) 29 i0 _ 4 72 Try.underlying23 HI.out HZ0.out HZ1.out HZ2.out rfl (by omega) (Value.slice (some ⟨gg1, 0, none⟩) (o.length + 1) cap1) (o.length + 1) (flatF ((o ++ [f])) (plSet ad (o.length) ((pf, pfc), (tf, tfc))) (o.length + 1)) (by rfl) (ROW.out.alloc _) ⟨W2.heap.size, 0, none⟩ 1 1 (cellsF (fg fs j) ((pa, pc), (ta, tc))) (by rfl) (by rfl) (World.news_of_block (cs := #[.string (fid fs j), .int .i64 (fkd fs j), .slice pa (fps fs j).length pc, .slice ta (fts fs j).length tc]) (t := 29) (fr := (0, 0)) (heap_alloc_new W2 _)) (by simp [Value.oneCell', cellsF]) (by omega) (by unfold maxLen; omega) (by omega) (by simp; omega) (W2.heap.size + 1) (by simp) ?_; intro gg2 cap2 wa2 hown2 hgrow2 hat2 hlt2; clear ROW; have vw : (Value.slice (some ⟨gg1, 0, none⟩) (o.length + 1) cap1).ownBlock ≠ some w.heap.size := (fun e => by have := HV.out _ e; omega); replace HR : Hid (Row wa2 (fun x => x < w.heap.size) (w.heap.size + 1) (Value.slice (some ⟨gg2, 0, none⟩) ((o ++ [f]).length + 1) cap2) ((o ++ [f]) ++ [(fg fs j)]).length ((o ++ [f]) ++ [(fg fs j)]) (plSet (plSet ad (o.length) ((pf, pfc), (tf, tfc))) ((o ++ [f]).length) ((pa, pc), (ta, tc)))) := HR.out.snoc D1.out (PL.out.imp (fun h => h) fun q x hx => ⟨q x hx, by have := q x hx; omega, fun e => by have h1 := HV.out x e; have h2 := q x hx; omega⟩) D2.out (TL.out.imp (fun h => h) fun q x hx => ⟨q x hx, by have := q x hx; omega, fun e => by have h1 := HV.out x e; have h2 := q x hx; omega⟩) (by simpa using hown2) hgrow2 hat2; replace HBX := Lib.hid (BoxF.grown HBX.out hgrow2 vw); replace HB : Hid (Below w.heap.size w wa2) := (HB.out.alloc HB.out.size _).grown hgrow2 (by simp; omega) (fun x hx => by have := HV.out x hx; omega); clear hown2 hgrow2 hat2 vw)
            go_roundw
            case rel => exact ⟨j + 1, _, o ++ [f] ++ [fg fs j], _, _, by omega, by go_num, rfl, by simp, HS.out, by simp; omega, HR.out, HBX.out, HB.out⟩
            case measure => simp [intOf]; omega
          · replace hol : o.length ≤ j + 1 := hol
            have HS : Hid (PutsL fs f (j + 1) (o ++ [fg fs j]) true) := by simpa [Hid, hk] using hst
            clear hst he hle hq hk
            go_wp2
            go_quiet (fail)
            have Bq : Below wr.heap.size wr (wr.drewN nq) := below_drewN (Below.refl _ _) nq
            have zq : (wr.drewN nq).heap.size = wr.heap.size := rfl
            generalize wr.drewN nq = W1 at *
            replace HR := Lib.hid (HR.out.below Bq)
            replace HBX := Lib.hid (HBX.out.later Bq)
            replace HB := Lib.hid (HB.out.trans (Bq.mono HB.out.size))
            replace FPr := Lib.hid (FPr.out.below Bq)
            replace FTr := Lib.hid (FTr.out.below Bq)
            replace D1 := Lib.hid (D1.out.below Bq)
            replace D2 := Lib.hid (D2.out.below Bq)
            replace hc1 := cell_later Bq hc1
            replace hc2 := cell_later Bq hc2
            replace hc3 := cell_later Bq hc3
            replace hc4 := cell_later Bq hc4
            replace x0 := cell_later Bq x0
            replace x1 := cell_later Bq x1
            replace x2 := cell_later Bq x2
            replace x3 := cell_later Bq x3
            replace hsz : w.heap.size < W1.heap.size := by omega
            replace hblt : b < W1.heap.size := by omega
            clear Bq zq
            go_wp2
            go_quiet (fail)
            have Bq : Below W1.heap.size W1 (W1.drewN nq) := below_drewN (Below.refl _ _) nq
            have zq : (W1.drewN nq).heap.size = W1.heap.size := rfl
            generalize W1.drewN nq = W2 at *
            replace HR := Lib.hid (HR.out.below Bq)
            replace HBX := Lib.hid (HBX.out.later Bq)
            replace HB := Lib.hid (HB.out.trans (Bq.mono HB.out.size))
            replace FPr := Lib.hid (FPr.out.below Bq)
            replace FTr := Lib.hid (FTr.out.below Bq)
            replace D1 := Lib.hid (D1.out.below Bq)
            replace D2 := Lib.hid (D2.out.below Bq)
            replace hc1 := cell_later Bq hc1
            replace hc2 := cell_later Bq hc2
            replace hc3 := cell_later Bq hc3
            replace hc4 := cell_later Bq hc4
            replace x0 := cell_later Bq x0
            replace x1 := cell_later Bq x1
            replace x2 := cell_later Bq x2
            replace x3 := cell_later Bq x3
            replace hsz : w.heap.size < W2.heap.size := by omega
            replace hblt : b < W2.heap.size := by omega
            clear Bq zq
            have ROW := Lib.hid HR.out.row
            go_wp2_with (at_builtin; refine wpList_append_lies _ (by rfl) _ _ _ (by rfl) (w.heap.size + 1) 29 i0 _ 4 72 Try.underlying23 HI.out HZ0.out HZ1.out HZ2.out rfl (by omega) (v) (o.length) (flatF (o) ad (o.length)) (by rfl) (ROW.out.alloc _) ⟨W2.heap.size, 0, none⟩ 1 1 (cellsF (fg fs j) ((pa, pc), (ta, tc))) (by rfl) (by rfl) (World.news_of_block (cs := #[.string (fid fs j), .int .i64 (fkd fs j), .slice pa (fps fs j).length pc, .slice ta (fts fs j).length tc]) (t := 29) (fr := (0, 0)) (heap_alloc_new W2 _)) (by simp [Value.oneCell', cellsF]) (by omega) (by unfold maxLen; omega) (by omega) (by simp; omega) (W2.heap.size + 1) (by simp) ?_; intro gg2 cap2 wa2 hown2 hgrow2 hat2 hlt2; clear ROW; have vw : (v).ownBlock ≠ some w.heap.size := (fun e => by have := HV.out _ e; omega); replace HR : Hid (Row wa2 (fun x => x < w.heap.size) (w.heap.size + 1) (Value.slice (some ⟨gg2, 0, none⟩) (o.length + 1) cap2) (o ++ [(fg fs j)]).length (o ++ [(fg fs j)]) (plSet ad (o.length) ((pa, pc), (ta, tc)))) := HR.out.snoc D1.out (PL.out.imp (fun h => h) fun q x hx => ⟨q x hx, by have := q x hx; omega, fun e => by have h1 := HV.out x e; have h2 := q x hx; omega⟩) D2.out (TL.out.imp (fun h => h) fun q x hx => ⟨q x hx, by have := q x hx; omega, fun e => by have h1 := HV.out x e; have h2 := q x hx; omega⟩) (by simpa using hown2) hgrow2 hat2; replace HBX := Lib.hid (BoxF.grown HBX.out hgrow2 vw); replace HB : Hid (Below w.heap.size w wa2) := (HB.out.alloc HB.out.size _).grown hgrow2 (by simp; omega) (fun x hx => by have := HV.out x hx; omega); clear hown2 hgrow2 hat2 vw)
            go_roundw
            case rel => exact ⟨j + 1, _, o ++ [fg fs j], _, _, by omega, by go_num, rfl, rfl, HS.out, by simp; omega, HR.out, HBX.out, HB.out⟩
            case measure => simp [intOf]; omega
    · obtain rfl : j = fs.length := by omega
      have HD := Lib.hid hP.done
      clear hro hbel hP
      cases q
      · replace hol : o.length ≤ fs.length := hol
        have ROW := Lib.hid HR.out.row
        go_wp2_with (at_builtin; refine wpList_append_lies _ (by rfl) _ _ _ (by rfl) (w.heap.size + 1) 29 i0 _ 4 72 Try.underlying23 HI.out HZ0.out HZ1.out HZ2.out rfl (by omega) (v) (o.length) (flatF (o) ad (o.length)) (by rfl) (ROW.out.alloc _) ⟨wr.heap.size, 0, none⟩ 1 1 (cellsF f ((pf, pfc), (tf, tfc))) (by rfl) (by rfl) (World.news_of_block (cs := #[.string f.1, .int .i64 f.2.1, .slice pf f.2.2.1.length pfc, .slice tf f.2.2.2.length tfc]) (t := 29) (fr := (0, 0)) (heap_alloc_new wr _)) (by simp [Value.oneCell', cellsF]) (by omega) (by unfold maxLen; omega) (by omega) (by simp; omega) (wr.heap.size + 1) (by simp) ?_; intro gg1 cap1 wa1 hown1 hgrow1 hat1 hlt1; clear ROW; have vw : (v).ownBlock ≠ some w.heap.size := (fun e => by have := HV.out _ e; omega); replace HR : Hid (Row wa1 (fun x => x < w.heap.size) (w.heap.size + 1) (Value.slice (some ⟨gg1, 0, none⟩) (o.length + 1) cap1) (o ++ [f]).length (o ++ [f]) (plSet ad (o.length) ((pf, pfc), (tf, tfc)))) := HR.out.snoc FPr.out (PF.out.imp (fun h => h) fun q x hx => ⟨q x hx, by have := q x hx; omega, fun e => by have h1 := HV.out x e; have h2 := q x hx; omega⟩) FTr.out (TF.out.imp (fun h => h) fun q x hx => ⟨q x hx, by have := q x hx; omega, fun e => by have h1 := HV.out x e; have h2 := q x hx; omega⟩) (by simpa using hown1) hgrow1 hat1; replace HBX := Lib.hid (BoxF.grown HBX.out hgrow1 vw); replace HB : Hid (Below w.heap.size w wa1) := (HB.out.alloc HB.out.size _).grown hgrow1 (by simp; omega) (fun x hx => by have := HV.out x hx; omega); clear hown1 hgrow1 hat1 vw)
        go_wp2
        go_ret
        have e : o ++ [f] = putL fs f := by simpa using HD.out
        have hr := HR.out
        rw [e] at hr
        obtain ⟨a', cap', e', hF, _⟩ := hr.reads
        first | exact ⟨⟨a', cap', congrArg Ending.returned e', hF⟩, HB.out⟩ | exact ⟨⟨a', ⟨cap', congrArg Ending.returned e'⟩, hF⟩, HB.out⟩
      · have e : o = putL fs f := by simpa using HD.out
        have hr := HR.out
        rw [e] at hr
        obtain ⟨a', cap', rfl, hF, _⟩ := hr.reads
        have HF := Lib.hid hF
        clear hF hr HR HV
        go_wp2
        go_ret
        first | exact ⟨⟨a', cap', rfl, HF.out⟩, HB.out⟩ | exact ⟨⟨a', ⟨cap', rfl⟩, HF.out⟩, HB.out⟩

set_option maxRecDepth 100000 in
set_option maxHeartbeats 4000000 in
theorem specSheetPut_any (a : Option Addr) (cap : Nat) (fs : List Ft) (f : Ft) (pa ta : Option Addr) (pc tc : Nat) (w : World) (hp : FeatsAt w a fs) (hl : fs.length ≤ 1048576) (ht : FeatsLen fs 1048576) (hpp : PtsAt w pa f.2.2.1) (htt : TagsAt w ta f.2.2.2) (hfl : FtLen f 1048576) :
    Calls Try.prog 7 #[.slice a fs.length cap, .agg #[.string f.1, .int .i64 f.2.1, .slice pa f.2.2.1.length pc, .slice ta f.2.2.2.length tc]] w fun e w' => (∃ v, e = .returned (.tuple #[v, .bool (putHas fs f)]) ∧ GotL w.heap.size w'.heap.size w' v (putRL fs f)) ∧ Below w.heap.size w w' := by
  have HP := Lib.hid hp
  have HL := Lib.hid ht
  have PP := Lib.hid hpp
  have TT := Lib.hid htt
  have FL := Lib.hid hfl
  obtain ⟨x1, x2, x3, x4⟩ := hfl
  have X4 := Lib.hid x4
  clear hp ht hpp htt x4
  have A0 : Hid (∀ o, Below w.heap.size w (w.alloc o)) := fun o => (Below.refl _ _).alloc (Nat.le_refl _) _
  go_enter Try.func7, Try.ntmps7
  go_wp2_with fail
  refine (l3Put_any _ _ _ f _ _ _ _ _ (HP.out.below (A0.out _)) hl (PP.out.below (A0.out _)) (TT.out.below (A0.out _))).mono ?_
  rintro e w1 ⟨⟨a1, cap1, rfl, hF⟩, hb1⟩
  have C1 := Lib.hid ((Box4.new w (.string f.1) (.int .i64 f.2.1) (.slice pa f.2.2.1.length pc) (.slice ta f.2.2.2.length tc) 29).later hb1)
  have B1 : Hid (Below w.heap.size w w1) := (A0.out _).trans (hb1.mono (by simp))
  have HF := Lib.hid hF
  have hpl := putL_len f fs
  clear hb1 hF
  go_wp2_with fail
  refine (specSheetOk_any _ _ _ _ (HP.out.below B1.out) hl HL.out).mono ?_
  rintro e w2 ⟨rfl, hb2⟩
  replace C1 := Lib.hid (C1.out.later hb2)
  have B2 : Hid (Below w.heap.size w w2) := B1.out.trans (hb2.mono B1.out.size)
  replace HF := Lib.hid (HF.out.below hb2)
  clear hb2 B1
  by_cases hok : sheetOk fs = true
  · rw [hok]
    obtain ⟨c0, c1, c2, c3⟩ := C1.out
    go_wp2_with fail
    clear c0 c1 c2 c3
    refine (specFeatOk_any _ _ _ _ _ _ _ _ _ (PP.out.below B2.out) (TT.out.below B2.out) (by omega) (by omega) (by omega) X4.out).mono ?_
    rintro e w3 ⟨rfl, hb3⟩
    have B3 : Hid (Below w.heap.size w w3) := B2.out.trans (hb3.mono B2.out.size)
    replace HF := Lib.hid (HF.out.below hb3)
    clear hb3 C1
    by_cases hfo : featOk f.1 f.2.1 f.2.2.1 f.2.2.2 = true
    · rw [hfo]
      by_cases hle : (putL fs f).length ≤ 8
      · have HH : Hid (putHas fs f = true) := by show _ = _; simp [putHas, ftOk1, hok, hfo, hle]
        have HG : Hid (putRL fs f = putL fs f) := by show _ = _; unfold putRL; rw [HH.out, if_pos rfl]
        have hnn : ¬ (8 : Int) < ((putL fs f).length : Int) := by omega
        have HQ : Hid (∀ i, i < (putL fs f).length → 0 < (fps (putL fs f) i).length) := fun i hi => by
          have hm : (putL fs f)[i] ∈ putL fs f := List.getElem_mem hi
          have := putL_pos (fs := fs) (t := f) (fun g hg => by
            obtain ⟨j, hj, e⟩ := List.getElem_of_mem hg
            have := ftOk_pts (good_ok hok hj)
            unfold fps at this
            rwa [fg_get hj, e] at this) (ftOk_pts (fs := [f]) (i := 0) hfo) _ hm
          unfold fps
          rwa [fg_get hi]
        clear hok hfo
        go_wp2_with fail
        refine (l3Copy_any _ _ _ _ HF.out (by omega) (putL_lens HL.out FL.out) HQ.out).mono ?_
        rintro e w4 ⟨⟨v, rfl, hg⟩, hb4⟩
        have B4 : Hid (Below w.heap.size w w4) := B3.out.trans (hb4.mono B3.out.size)
        have GG : Hid (GotL w.heap.size w4.heap.size w4 v (putL fs f)) := hg.mono B3.out.size (Nat.le_refl _)
        clear hb4 hg
        go_wp2
        go_ret2
        rw [HH.out, HG.out]
        exact ⟨⟨v, rfl, GG.out⟩, B4.out⟩
      · have HH : Hid (putHas fs f = false) := by show _ = _; simp [putHas, hle]
        have HG : Hid (putRL fs f = []) := by show _ = _; unfold putRL; rw [HH.out]; rfl
        have hnn : (8 : Int) < ((putL fs f).length : Int) := by omega
        clear hok hfo
        go_wp2
        go_ret2
        rw [HH.out, HG.out]
        exact ⟨⟨_, rfl, gotL_nil _ _ _ _ _⟩, B3.out.alloc B3.out.size _⟩
    · have hfo' : featOk f.1 f.2.1 f.2.2.1 f.2.2.2 = false := by simpa using hfo
      have HH : Hid (putHas fs f = false) := by show _ = _; simp [putHas, ftOk1, hfo']
      have HG : Hid (putRL fs f = []) := by show _ = _; unfold putRL; rw [HH.out]; rfl
      rw [hfo']
      clear hok hfo hfo'
      go_wp2
      go_ret2
      rw [HH.out, HG.out]
      exact ⟨⟨_, rfl, gotL_nil _ _ _ _ _⟩, B3.out.alloc B3.out.size _⟩
  · have hok' : sheetOk fs = false := by simpa using hok
    have HH : Hid (putHas fs f = false) := by show _ = _; simp [putHas, hok']
    have HG : Hid (putRL fs f = []) := by show _ = _; unfold putRL; rw [HH.out]; rfl
    rw [hok']
    clear hok hok'
    go_wp2
    go_ret2
    rw [HH.out, HG.out]
    exact ⟨⟨_, rfl, gotL_nil _ _ _ _ _⟩, B2.out.alloc B2.out.size _⟩
end Go.Proofs.Ytelimcknhaflfaa

namespace Go.Proofs.Ytelimcknhaflfaa
set_option linter.unusedVariables false
open Go.ChangeShapes Go.WideShapes Go.ChangeAt Go.RowKit

theorem Box4.below {w w' : World} {b : Nat} {v0 v1 v2 v3 : Value} (h : Box4 w b v0 v1 v2 v3) (hb : Below w.heap.size w w') : Box4 w' b v0 v1 v2 v3 := h.later hb

set_option maxRecDepth 100000 in
set_option maxHeartbeats 8000000 in
theorem fnSheetTwo_walk (a : Option Addr) (n cap : Nat) (a' : Option Addr) (n' cap' : Nat) (w : World) (h : CodeAt w a n) (hl : n ≤ 1048576) (hc : n ≤ cap) (h' : CodeAt w a' n') (hl' : n' ≤ 1048576) (hc' : n' ≤ cap') :
    Calls Try.prog 3 #[.slice a n cap, .slice a' n' cap'] w fun e w' => e = .returned (.bool true) ∧ Below w.heap.size w w' := by
  have HC := Lib.hid h
  have HD := Lib.hid h'
  clear h h'
  go_enter Try.func3, Try.ntmps3
  go_wp2_with fail
  refine (drawSheetPut_any _ _ _ _ HC.out hl hc).mono ?_
  rintro e w1 ⟨sa, sc, s, f, pa, pc, ta, tc, rfl, hF, hlen, hFL, hP, hT, s1, s2, s3, s4, hb1⟩
  have B := Lib.hid hb1
  have S := Lib.hid hF
  have SL : Hid (FeatsLen s 1048576) := hFL.mono (by omega)
  have P := Lib.hid hP
  have T := Lib.hid hT
  have FL : Hid (FtLen f 1048576) := ⟨by omega, by omega, by omega, s4.mono (by omega)⟩
  have A1 : Hid (∀ o, Below w1.heap.size w1 (w1.alloc o)) := fun o => (Below.refl _ _).alloc (Nat.le_refl _) _
  clear hF hFL hP hT s4 hb1 HC
  go_wp2_with fail
  refine (drawSheetPut_any _ _ _ _ (HD.out.below (B.out.alloc B.out.size _)) hl' hc').mono ?_
  rintro e w2 ⟨sa2, sc2, s2L, g, qa, qc, ua, uc, rfl, _, _, _, hP, hT, t1, t2, t3, t4, hb2⟩
  have c0 := cell_later hb2 (a := ⟨w1.heap.size, 0, none⟩) (v := .string f.1) (by simp [go_sem])
  have c1 := cell_later hb2 (a := ⟨w1.heap.size, 1, none⟩) (v := .int .i64 f.2.1) (by simp [go_sem])
  have c2 := cell_later hb2 (a := ⟨w1.heap.size, 2, none⟩) (v := .slice pa f.2.2.1.length pc) (by simp [go_sem])
  have c3 := cell_later hb2 (a := ⟨w1.heap.size, 3, none⟩) (v := .slice ta f.2.2.2.length tc) (by simp [go_sem])
  have hn : Below w1.heap.size w1 w2 := (A1.out _).trans (hb2.mono (by simp))
  have Q := Lib.hid hP
  have U := Lib.hid hT
  have GL : Hid (FtLen g 1048576) := ⟨by omega, by omega, by omega, t4.mono (by omega)⟩
  replace B : Hid (Below w.heap.size w w2) := B.out.trans (hn.mono B.out.size)
  replace S := Lib.hid (S.out.below hn)
  replace P := Lib.hid (P.out.below hn)
  replace T := Lib.hid (T.out.below hn)
  have F4 : Hid (Box4 w2 w1.heap.size (.string f.1) (.int .i64 f.2.1) (.slice pa f.2.2.1.length pc) (.slice ta f.2.2.2.length tc)) := ⟨c0, c1, c2, c3⟩
  have G4 : Hid (∀ o, o = w2.heap.size → Box4 (w2.alloc (.cells #[.string g.1, .int .i64 g.2.1, .slice qa g.2.2.1.length qc, .slice ua g.2.2.2.length uc] 29)) o (.string g.1) (.int .i64 g.2.1) (.slice qa g.2.2.1.length qc) (.slice ua g.2.2.2.length uc)) := fun o e => by subst e; exact Box4.new _ _ _ _ _ _
  have z12 : w1.heap.size < w2.heap.size := World.block_lt_of_cell? _ _ c0
  clear hb2 hP hT t4 hn HD A1 c0 c1 c2 c3
  have hn : Below w2.heap.size w2 (w2.alloc (.cells #[.string g.1, .int .i64 g.2.1, .slice qa g.2.2.1.length qc, .slice ua g.2.2.2.length uc] 29)) := (Below.refl _ _).alloc (Nat.le_refl _) _
  obtain ⟨c0, c1, c2, c3⟩ := F4.out
  have m1 : s.length ≤ 1048576 := by omega
  have HX : Hid (∀ u x c, FeatsAt u x s → PtsAt u pa f.2.2.1 → TagsAt u ta f.2.2.2 → Calls Try.prog 6 #[.slice x s.length c, .agg #[.string f.1, .int .i64 f.2.1, .slice pa f.2.2.1.length pc, .slice ta f.2.2.2.length tc]] u (ListAns u (putRL s f) (putHas s f))) := fun u x c h1 h2 h3 => implSheetPut_any x c s f pa ta pc tc u h1 m1 SL.out h2 h3 FL.out
  go_wp2_with fail
  replace B : Hid (Below w.heap.size w (w2.alloc (.cells #[.string g.1, .int .i64 g.2.1, .slice qa g.2.2.1.length qc, .slice ua g.2.2.2.length uc] 29))) := B.out.trans (hn.mono B.out.size)
  replace S := Lib.hid (S.out.below hn)
  replace P := Lib.hid (P.out.below hn)
  replace T := Lib.hid (T.out.below hn)
  replace Q := Lib.hid (Q.out.below hn)
  replace U := Lib.hid (U.out.below hn)
  replace F4 := Lib.hid (F4.out.below hn)
  replace G4 := Lib.hid (G4.out _ rfl)
  clear hn c0 c1 c2 c3
  have X1 := m1
  generalize (w2.alloc (.cells #[.string g.1, .int .i64 g.2.1, .slice qa g.2.2.1.length qc, .slice ua g.2.2.2.length uc] 29)) = w3 at *
  refine (HX.out _ _ _ S.out P.out T.out).mono ?_
  rintro e w4 ⟨⟨vx, adx, rfl, hbu⟩, hn⟩
  obtain ⟨xa, xc, rfl, hX⟩ := hbu.listH
  have XR := Lib.hid hX.reads
  replace B : Hid (Below w.heap.size w w4) := B.out.trans (hn.mono B.out.size)
  replace S := Lib.hid (S.out.below hn)
  replace P := Lib.hid (P.out.below hn)
  replace T := Lib.hid (T.out.below hn)
  replace Q := Lib.hid (Q.out.below hn)
  replace U := Lib.hid (U.out.below hn)
  replace F4 := Lib.hid (F4.out.below hn)
  replace G4 := Lib.hid (G4.out.below hn)
  clear hn hbu hX HX
  obtain ⟨c0, c1, c2, c3⟩ := F4.out
  go_wp2_with fail
  refine (specSheetPut_any _ _ s f pa ta pc tc _ S.out m1 SL.out P.out T.out FL.out).mono ?_
  rintro e w5 ⟨⟨vw, rfl, hG⟩, hn⟩
  clear c0 c1 c2 c3
  replace B : Hid (Below w.heap.size w w5) := B.out.trans (hn.mono B.out.size)
  replace S := Lib.hid (S.out.below hn)
  replace P := Lib.hid (P.out.below hn)
  replace T := Lib.hid (T.out.below hn)
  replace Q := Lib.hid (Q.out.below hn)
  replace U := Lib.hid (U.out.below hn)
  replace F4 := Lib.hid (F4.out.below hn)
  replace G4 := Lib.hid (G4.out.below hn)
  replace XR := Lib.hid (XR.out.below hn)
  obtain ⟨wa, wc, rfl, hG2⟩ := hG
  have WR := Lib.hid hG2.1
  have M := Lib.hid (fun h e => two_same (s := s) (f := f) (g := g) h e)
  have N := Lib.hid (fun h e => two_diff (s := s) (f := f) (g := g) h e)
  have rl := putRL_len s f
  have RL := Lib.hid (putRL_lens SL.out FL.out)
  have IY : Hid (∀ u x c, FeatsAt u x (putRL s f) → PtsAt u qa g.2.2.1 → TagsAt u ua g.2.2.2 → Calls Try.prog 6 #[.slice x (putRL s f).length c, .agg #[.string g.1, .int .i64 g.2.1, .slice qa g.2.2.1.length qc, .slice ua g.2.2.2.length uc]] u (ListAns u (putRL (putRL s f) g) (putHas (putRL s f) g))) := fun u x c h1 h2 h3 => implSheetPut_any x c _ g qa ua qc uc u h1 (by omega) RL.out h2 h3 GL.out
  have IZ : Hid (∀ u x c, FeatsAt u x s → PtsAt u qa g.2.2.1 → TagsAt u ua g.2.2.2 → Calls Try.prog 6 #[.slice x s.length c, .agg #[.string g.1, .int .i64 g.2.1, .slice qa g.2.2.1.length qc, .slice ua g.2.2.2.length uc]] u (ListAns u (putRL s g) (putHas s g))) := fun u x c h1 h2 h3 => implSheetPut_any x c s g qa ua qc uc u h1 m1 SL.out h2 h3 GL.out
  have rz := putRL_len s g
  have ZL := Lib.hid (putRL_lens SL.out GL.out)
  have IU : Hid (∀ u x c, FeatsAt u x (putRL s g) → PtsAt u pa f.2.2.1 → TagsAt u ta f.2.2.2 → Calls Try.prog 6 #[.slice x (putRL s g).length c, .agg #[.string f.1, .int .i64 f.2.1, .slice pa f.2.2.1.length pc, .slice ta f.2.2.2.length tc]] u (ListAns u (putRL (putRL s g) f) (putHas (putRL s g) f))) := fun u x c h1 h2 h3 => implSheetPut_any x c _ f pa ta pc tc u h1 (by omega) ZL.out h2 h3 FL.out
  have ry := putRL_len (putRL s f) g
  have YL := Lib.hid (putRL_lens RL.out GL.out)
  have ru := putRL_len (putRL s g) f
  have UL := Lib.hid (putRL_lens ZL.out FL.out)
  clear hn hG2
  generalize putRL (putRL s f) g = y at *
  generalize putRL (putRL s g) f = u at *
  generalize putHas (putRL s f) g = one at *
  generalize putHas (putRL s g) f = three at *
  generalize putRL s f = x at *
  generalize putRL s g = z at *
  generalize putHas s f = ok at *
  generalize putHas s g = two at *
  have kx := kf_eq (x := f) (y := g)
  cases ok
  · go_wp2_with fail
    refine (implSheetSame_any _ _ _ _ x x _ XR.out WR.out (by omega) (by omega) RL.out RL.out).mono ?_
    rintro e w6 ⟨rfl, hn⟩
    rw [show fsEq x x = true by simp [fsEq]]
    replace B : Hid (Below w.heap.size w w6) := B.out.trans (hn.mono B.out.size)
    replace S := Lib.hid (S.out.below hn)
    replace P := Lib.hid (P.out.below hn)
    replace T := Lib.hid (T.out.below hn)
    replace Q := Lib.hid (Q.out.below hn)
    replace U := Lib.hid (U.out.below hn)
    replace F4 := Lib.hid (F4.out.below hn)
    replace G4 := Lib.hid (G4.out.below hn)
    replace XR := Lib.hid (XR.out.below hn)
    replace WR := Lib.hid (WR.out.below hn)
    clear hn
    go_wp2_with fail
    refine (implSheetSame_any _ _ _ _ x x _ XR.out WR.out (by omega) (by omega) RL.out RL.out).mono ?_
    rintro e w7 ⟨rfl, hn⟩
    rw [show fsEq x x = true by simp [fsEq]]
    replace B : Hid (Below w.heap.size w w7) := B.out.trans (hn.mono B.out.size)
    replace S := Lib.hid (S.out.below hn)
    replace P := Lib.hid (P.out.below hn)
    replace T := Lib.hid (T.out.below hn)
    replace Q := Lib.hid (Q.out.below hn)
    replace U := Lib.hid (U.out.below hn)
    replace F4 := Lib.hid (F4.out.below hn)
    replace G4 := Lib.hid (G4.out.below hn)
    replace XR := Lib.hid (XR.out.below hn)
    replace WR := Lib.hid (WR.out.below hn)
    clear hn
    go_wp2
    go_ret
    exact ⟨rfl, B.out⟩
  · go_wp2_with fail
    refine (implSheetSame_any _ _ _ _ x x _ XR.out WR.out (by omega) (by omega) RL.out RL.out).mono ?_
    rintro e w6 ⟨rfl, hn⟩
    rw [show fsEq x x = true by simp [fsEq]]
    replace B : Hid (Below w.heap.size w w6) := B.out.trans (hn.mono B.out.size)
    replace S := Lib.hid (S.out.below hn)
    replace P := Lib.hid (P.out.below hn)
    replace T := Lib.hid (T.out.below hn)
    replace Q := Lib.hid (Q.out.below hn)
    replace U := Lib.hid (U.out.below hn)
    replace F4 := Lib.hid (F4.out.below hn)
    replace G4 := Lib.hid (G4.out.below hn)
    replace XR := Lib.hid (XR.out.below hn)
    replace WR := Lib.hid (WR.out.below hn)
    clear hn
    obtain ⟨c0, c1, c2, c3⟩ := G4.out
    go_wp2_with fail
    refine (IY.out _ _ _ XR.out Q.out U.out).mono ?_
    rintro e w7 ⟨⟨vy, ady, rfl, hbu⟩, hn⟩
    obtain ⟨ya, yc, rfl, hY⟩ := hbu.listH
    have YR := Lib.hid hY.reads
    clear c0 c1 c2 c3
    replace B : Hid (Below w.heap.size w w7) := B.out.trans (hn.mono B.out.size)
    replace S := Lib.hid (S.out.below hn)
    replace P := Lib.hid (P.out.below hn)
    replace T := Lib.hid (T.out.below hn)
    replace Q := Lib.hid (Q.out.below hn)
    replace U := Lib.hid (U.out.below hn)
    replace F4 := Lib.hid (F4.out.below hn)
    replace G4 := Lib.hid (G4.out.below hn)
    replace XR := Lib.hid (XR.out.below hn)
    replace WR := Lib.hid (WR.out.below hn)
    clear hn hbu hY
    obtain ⟨c0, c1, c2, c3⟩ := G4.out
    go_wp2_with fail
    refine (IZ.out _ _ _ S.out Q.out U.out).mono ?_
    rintro e w8 ⟨⟨vz, adz, rfl, hbu⟩, hn⟩
    obtain ⟨za, zc, rfl, hZ⟩ := hbu.listH
    have ZR := Lib.hid hZ.reads
    clear c0 c1 c2 c3
    replace B : Hid (Below w.heap.size w w8) := B.out.trans (hn.mono B.out.size)
    replace S := Lib.hid (S.out.below hn)
    replace P := Lib.hid (P.out.below hn)
    replace T := Lib.hid (T.out.below hn)
    replace Q := Lib.hid (Q.out.below hn)
    replace U := Lib.hid (U.out.below hn)
    replace F4 := Lib.hid (F4.out.below hn)
    replace G4 := Lib.hid (G4.out.below hn)
    replace XR := Lib.hid (XR.out.below hn)
    replace WR := Lib.hid (WR.out.below hn)
    replace YR := Lib.hid (YR.out.below hn)
    clear hn hbu hZ
    obtain ⟨c0, c1, c2, c3⟩ := F4.out
    go_wp2_with fail
    refine (IU.out _ _ _ ZR.out P.out T.out).mono ?_
    rintro e w9 ⟨⟨vu, adu, rfl, hbu⟩, hn⟩
    obtain ⟨va, vc, rfl, hU⟩ := hbu.listH
    have UR := Lib.hid hU.reads
    clear c0 c1 c2 c3
    replace B : Hid (Below w.heap.size w w9) := B.out.trans (hn.mono B.out.size)
    replace S := Lib.hid (S.out.below hn)
    replace P := Lib.hid (P.out.below hn)
    replace T := Lib.hid (T.out.below hn)
    replace Q := Lib.hid (Q.out.below hn)
    replace U := Lib.hid (U.out.below hn)
    replace F4 := Lib.hid (F4.out.below hn)
    replace G4 := Lib.hid (G4.out.below hn)
    replace XR := Lib.hid (XR.out.below hn)
    replace WR := Lib.hid (WR.out.below hn)
    replace YR := Lib.hid (YR.out.below hn)
    replace ZR := Lib.hid (ZR.out.below hn)
    clear hn hbu hU
    obtain ⟨c0, c1, c2, c3⟩ := F4.out
    obtain ⟨d0, d1, d2, d3⟩ := G4.out
    have eb := bytes_beq f.1 g.1
    by_cases hfg : f.1 = g.1
    · rw [decide_eq_true hfg] at eb
      obtain ⟨e1, e2⟩ := M.out (by first | rfl | trivial) (kx.2 hfg)
      subst e1
      have eo : (one == one) = true := by simp
      cases one
      · go_wp2
        go_ret
        exact ⟨rfl, B.out⟩
      · obtain rfl := e2 (by first | rfl | trivial)
        go_wp2_with fail
        refine (implSheetSame_any _ _ _ _ y y _ YR.out ZR.out (by omega) (by omega) YL.out YL.out).mono ?_
        rintro e w10 ⟨rfl, hn⟩
        rw [show fsEq y y = true by simp [fsEq]]
        replace B : Hid (Below w.heap.size w w10) := B.out.trans (hn.mono B.out.size)
        clear hn
        go_wp2
        go_ret
        exact ⟨rfl, B.out⟩
    · rw [decide_eq_false hfg] at eb
      cases one
      · go_wp2
        go_ret
        exact ⟨rfl, B.out⟩
      · obtain ⟨e1, e2, e3⟩ := N.out (by first | rfl | trivial) (fun q => hfg (kx.1 q)) (by first | rfl | trivial)
        subst e1 e2 e3
        go_wp2_with fail
        refine (implSheetSame_any _ _ _ _ y y _ YR.out UR.out (by omega) (by omega) YL.out YL.out).mono ?_
        rintro e w10 ⟨rfl, hn⟩
        rw [show fsEq y y = true by simp [fsEq]]
        replace B : Hid (Below w.heap.size w w10) := B.out.trans (hn.mono B.out.size)
        clear hn
        go_wp2
        go_ret
        exact ⟨rfl, B.out⟩

set_option maxRecDepth 100000 in
theorem fnSheetTwo_large (a : Option Addr) (n cap : Nat) (a' : Option Addr) (n' cap' : Nat) (w : World) (hn : 1048576 < n) :
    Calls Try.prog 3 #[.slice a n cap, .slice a' n' cap'] w fun e w' => e = .returned (.bool true) ∧ Below w.heap.size w w' := by
  have hg : (1048576 : Int) < (n : Int) := by omega
  go_enter Try.func3, Try.ntmps3
  go_wp2
  go_ret
  exact ⟨rfl, Below.refl _ _⟩

set_option maxRecDepth 100000 in
theorem fnSheetTwo_large2 (a : Option Addr) (n cap : Nat) (a' : Option Addr) (n' cap' : Nat) (w : World) (h0 : n ≤ 1048576) (hn : 1048576 < n') :
    Calls Try.prog 3 #[.slice a n cap, .slice a' n' cap'] w fun e w' => e = .returned (.bool true) ∧ Below w.heap.size w w' := by
  have hg : (1048576 : Int) < (n' : Int) := by omega
  have hg0 : ¬ (1048576 : Int) < (n : Int) := by omega
  go_enter Try.func3, Try.ntmps3
  go_wp2
  go_ret
  exact ⟨rfl, Below.refl _ _⟩

theorem fnSheetTwo_all (a : Option Addr) (n cap : Nat) (a' : Option Addr) (n' cap' : Nat) (w : World) (h : CodeAt w a n) (hc : n ≤ cap) (h' : CodeAt w a' n') (hc' : n' ≤ cap') :
    Calls Try.prog 3 #[.slice a n cap, .slice a' n' cap'] w fun e w' => e = .returned (.bool true) ∧ Below w.heap.size w w' := by
  by_cases h1 : n ≤ 1048576
  · by_cases h2 : n' ≤ 1048576
    · exact fnSheetTwo_walk a n cap a' n' cap' w h h1 hc h' h2 hc'
    · exact fnSheetTwo_large2 a n cap a' n' cap' w h1 (by omega)
  · exact fnSheetTwo_large a n cap a' n' cap' w (by omega)

set_option maxRecDepth 100000 in
theorem fnSheetTwo_lifted (os : Os) (started : os.Started) (H : Type) (enc : TypeId × Value → H) :
    ReturnsInHanded {} Try.checked os 3 .any (Rows.fnSheetTwoSpec.pre6 enc Try.prog Try.f3 Rows.fnSheetTwoRow.domain false) (Rows.fnSheetTwoSpec.post enc Try.prog Try.f3 false true false false) := by
  refine returnsInHanded_of_change (C := Try.checked) own started (by kernel_rfl) Try.func3
    (ChangeSpec.witness6 (enc := enc) (C := Try.checked) false ⟨#[], #[.slice none 0 0, .slice none 0 0], []⟩ 8 (by kernel_rfl) (by kernel_rfl) (by kernel_rfl) (by kernel_rfl)) ?_
  intro W base args ds gs before hval0 hW _ _
  have hval : ∀ (j : Nat) t v, Try.f3.params[j]? = some t → args[j]? = some v → Value.okWide Try.prog W .any base t v := hval0
  have hW' := hW
  obtain ⟨p, q, hA0, hV, rfl, _, _⟩ := hW
  have hA : DataW.TrodAll enc Try.prog W 0 (fun _ => true) true Try.f3.params.toList args.toList ds p := hA0
  rw [Try.params3] at hA hval
  obtain ⟨v0, vs0, d0, ds0, p0, q0, hargs, rfl, rfl, h0, r0⟩ := trodAll_cons hA
  obtain ⟨v1, vs1, d1, ds1, p1, q1, rfl, rfl, rfl, h1, r1⟩ := trodAll_cons r0
  obtain ⟨rfl, rfl, rfl⟩ := trodAll_nil r1
  obtain rfl : args = #[v0, v1] := by cases args; simp_all
  obtain ⟨rfl, rfl⟩ := trodVars_none hV
  have k0 := h0
  have lt0 : ∀ x ∈ p0, x.block < W.heap.size := by obtain ⟨m, hm⟩ := k0; exact DataW.trod_lt m _ _ _ hm
  obtain ⟨a0, c0, s0, rfl, f0, g0, _⟩ := open_code (hval 0 22 v0 rfl rfl) h0
  have k1 := h1
  have lt1 : ∀ x ∈ p1, x.block < W.heap.size := by obtain ⟨m, hm⟩ := k1; exact DataW.trod_lt m _ _ _ hm
  obtain ⟨a1, c1, s1, rfl, f1, g1, _⟩ := open_code (hval 1 22 v1 rfl rfl) h1
  clear hA0 hval0
  refine (fnSheetTwo_all a0 c0 s0 a1 c1 s1 W f0 g0 f1 g1).mono fun e W' ⟨he, bel⟩ => ?_
  subst he
  exact ⟨_, rfl, _, _, _, [], _, [], hW', trodAll_mk1 (shut_bool Try.underlying4 _), (trodAll_cons_mk (Below.trod laidOut (by kernel_rfl) (of_decide_eq_true (by kernel_rfl)) k0 bel lt0) (trodAll_cons_mk (Below.trod laidOut (by kernel_rfl) (of_decide_eq_true (by kernel_rfl)) k1 bel lt1) trodAll_mk0)), rfl, bel.frame _, fun h => by cases h⟩

theorem fnSheetTwo_over : Rows.fnSheetTwoRow.holds Try.pinned (OpenSpec.ofChange Rows.fnSheetTwoSpec) :=
  OpenClaim.holds_of_wide 3 Try.f3 rfl rfl rfl rfl rfl rfl rfl ⟨rfl, rfl, rfl, rfl, rfl⟩ rfl rfl rfl rfl rfl (by kernel_rfl) Try.func3 (by kernel_rfl)
    (of_decide_eq_true (by kernel_rfl)) (by unfold Func.isWrapper; first | (rw [if_pos (by decide +kernel)]; kernel_rfl) | (rw [if_neg (by decide +kernel)]; exact ⟨rfl, rfl⟩))
    (fun os started H enc _ => fnSheetTwo_lifted os started H enc)

/-- the given statement -/
theorem fnSheetTwo_holds : Rows.FnSheetTwoSaid := fnSheetTwo_over

end Go.Proofs.Ytelimcknhaflfaa
