/- Proved here: the program's thing of a name, by a map of names, is a copy of the first of that name, in memory of its own; lists of at most 1,048,576 things, points and tags, texts of at most 1,048,576 bytes. Proved here: a list of things that is built by appending copies, its parts apart from each other and from the row; no condition. Proved here: the things of a map by names, told in the order of their names, each copied into memory of its own; a map of at most 1,048,577 things. Proved here: the program's map without a name holds copies of the other things, in memory of its own; lists of at most 1,048,576 things, points and tags, texts of at most 1,048,576 bytes. Proved here: the model's list without a name, and its copy of a list, read as they should; lists of at most 1,048,576 things, points and tags. Proved here: a list that a function made in memory of its own is read, marked, and asked for its marks; lists of at most 1,048,576 things, points and tags. Proved here: what a list of things is with a thing put in, as the model goes through it and as a map by names tells it; a thing appended to a row of things; no condition. Proved here: the program's map with a thing holds copies of the things, in memory of its own; lists of at most 1,048,576 things, points and tags, texts of at most 1,048,576 bytes. Proved here: the model and the program ask whether a change, and whether a list of changes, is right as the plain definition 'diffOk' says; lists of at most 1,048,576. Proved here: the model and the program ask whether a list of changes is right as the plain definition 'diffOk' says; lists of at most 1,048,576. -/
import Derived.Test.YtccgbengfmlgbaaGreatMDf1
import Derived.Deep.RegionHeld3
import Derived.Deep.DeepCutAuto
import Derived.Test.YtccgbengfmlgbaaGreatWChangeEq
import Derived.Test.YtccgbengfmlgbaaGreatWFeatOk
import Derived.Test.YtccgbengfmlgbaaGreatWQuietB
import Derived.BigQuiet
namespace Go.Proofs.YtccgbengfmlgbaaGreat
set_option linter.unusedVariables false
open Go.ChangeShapes Go.WideShapes Go.ChangeAt Go.RowKit Go.Deep Go.Maps

theorem ent_get {w : World} {es : List En} {fs : List Ft} (h : Ents w es fs) {i : Nat} (hi : i < fs.length) : es[i]'(by rw [h.1]; exact hi) = (fid fs i, ev es i) := by
  have h1 := (h.2 i hi).1
  have hi' : i < es.length := by rw [h.1]; exact hi
  rw [← h1]
  simp [ek, ev, hi']

theorem nothing_feat {w w1 : World} {r : Nat} {x0 x1 x2 x3 : Value} (hw : Below w.heap.size w w1) (hr : w.heap.size ≤ r) :
    FeatAns w ⟨#[]⟩ 0 [] [] (.agg #[.string ⟨#[]⟩, .int .i64 0, .slice none 0 0, .slice none 0 0]) ((((w1.setCell ⟨r, 0, none⟩ x0).setCell ⟨r, 1, none⟩ x1).setCell ⟨r, 2, none⟩ x2).setCell ⟨r, 3, none⟩ x3) :=
  ⟨none, 0, none, 0, rfl, PtsAt.nil _ _, fun i hi => absurd hi (Nat.not_lt_zero _), fun x h => by simp [blk] at h, TagsAt.nil _ _, fun i hi => absurd hi (Nat.not_lt_zero _), fun x h => by simp [blk] at h, fun x h => by simp [blk] at h, (((hw.setCell hr _).setCell hr _).setCell hr _).setCell hr _⟩

theorem ok_tells {w0 : World} {es : List En} {fs : List Ft} (he : Ents w0 es fs) (hok : sheetOk fs = true) : TellsF (mapF es) es := by
  have h := tellsF_mapF es
  rw [toldF_asc (ascF_of_good he (by simp [sheetOk] at hok; exact hok.1))] at h
  exact h

/-- a look-up of a name that is there -/
theorem look_hit {w0 w : World} {b n : Nat} {es : List En} {fs : List Ft} (hown : w.ownsMap Tryz.prog 9 heldElem b n (mapF es)) (he : Ents w0 es fs) (hok : sheetOk fs = true) {i : Nat} (hi : i < fs.length) (hl : (fid fs i).size ≤ maxLen) :
    (Instr.lookup 92 (.map (some b)) (.string (fid fs i)) true).run Tryz.prog w = .ok (.tuple #[ev es i, .bool true]) w := by
  have hz : (zeroValue 34).run Tryz.prog w = .ok (.agg #[.string .empty, .int .i64 0, .slice none 0 0, .slice none 0 0]) w := by kernel_rfl
  obtain ⟨v, ps, hrun, hv⟩ := hown.look_ok keyT Tryz.underlying92 hz (zd := .held (.agg #[.string .empty, .int .i64 0, .slice none 0 0, .slice none 0 0])) (zp := []) rfl (Go.WideMaps.keyOf_string_mk Tryz.underlying9 hl)
  simp only [heldElem, Option.some.injEq, Prod.mk.injEq] at hv
  have hm : ((fid fs i, ev es i) : En) ∈ es := by rw [← ent_get he hi]; exact List.getElem_mem _
  have h1 := (ok_tells he hok).at_ _ hm
  have hh : Maps.has (mapF es) (.string (fid fs i).data.toList) = true := has_true_of_atKey h1
  have h3 := hv.1
  rw [show (mapF es).atKey (.string (fid fs i).data.toList) _ = .held (ev es i) from h1 _] at h3
  rw [hrun, DataW.held.inj h3, hh]

/-- a look-up of a name that is not there -/
theorem look_miss {w0 w : World} {b n : Nat} {es : List En} {fs : List Ft} {id : ByteArray} (hown : w.ownsMap Tryz.prog 9 heldElem b n (mapF es)) (he : Ents w0 es fs) (hno : ∀ j, j < fs.length → fid fs j ≠ id) (hl : id.size ≤ maxLen) :
    (Instr.lookup 92 (.map (some b)) (.string id) true).run Tryz.prog w = .ok (.tuple #[.agg #[.string .empty, .int .i64 0, .slice none 0 0, .slice none 0 0], .bool false]) w := by
  have hz : (zeroValue 34).run Tryz.prog w = .ok (.agg #[.string .empty, .int .i64 0, .slice none 0 0, .slice none 0 0]) w := by kernel_rfl
  obtain ⟨v, ps, hrun, hv⟩ := hown.look_ok keyT Tryz.underlying92 hz (zd := .held (.agg #[.string .empty, .int .i64 0, .slice none 0 0, .slice none 0 0])) (zp := []) rfl (Go.WideMaps.keyOf_string_mk Tryz.underlying9 hl)
  simp only [heldElem, Option.some.injEq, Prod.mk.injEq] at hv
  have hn : Maps.has (mapF es) (.string id.data.toList) = false := by
    cases hh : Maps.has (mapF es) (.string id.data.toList)
    · rfl
    · obtain ⟨t, h1, h2⟩ := (tellsF_mapF es).has _ hh
      obtain ⟨j, hj, e⟩ := List.getElem_of_mem (toldF_mem h1)
      have hj' : j < fs.length := by rw [← he.1]; exact hj
      rw [ent_get he hj'] at e
      refine absurd ?_ (hno j hj')
      rw [← toList_inj, ByteArray.toList_eq, ByteArray.toList_eq, ← h2, ← e]
      rfl
  have h3 := hv.1
  rw [atKey_of_not_has hn] at h3
  rw [hrun, DataW.held.inj h3, hn]

theorem FeatAns.close {w u w3 : World} {id : ByteArray} {k : Int} {ps : List (Int × Int)} {ts : List Tg} {v : Value} {r : Nat} (h : FeatAns u id k ps ts v w3) (hu : Below w.heap.size w u) (hr : w.heap.size ≤ r) (hr' : r < u.heap.size) (x0 x1 x2 x3 : Value) :
    FeatAns w id k ps ts v ((((w3.setCell ⟨r, 0, none⟩ x0).setCell ⟨r, 1, none⟩ x1).setCell ⟨r, 2, none⟩ x2).setCell ⟨r, 3, none⟩ x3) := by
  obtain ⟨a, cap, c, ca, h1, h2, h3, h4, h5, h6, h7, h8, h9⟩ := h
  have na : blk a ≠ some r := fun e => by have := (h4 _ e).1; omega
  have nc : blk c ≠ some r := fun e => by have := (h7 _ e).1; omega
  have hs := hu.size
  exact ⟨a, cap, c, ca, h1, (((h2.set na).set na).set na).set na, (((h3.set _ _).set _ _).set _ _).set _ _, fun x e => ⟨by have := (h4 x e).1; omega, by have := (h4 x e).2; simpa [World.setCell] using this⟩, (((h5.set nc).set nc).set nc).set nc, (((h6.set _ _).set _ _).set _ _).set _ _, fun x e => ⟨by have := (h7 x e).1; omega, by have := (h7 x e).2; simpa [World.setCell] using this⟩, h8, ((((hu.trans (h9.mono hs)).setCell hr _).setCell hr _).setCell hr _).setCell hr _⟩

theorem firstF_none {fs : List Ft} {id : ByteArray} (h : ¬ firstF fs id < fs.length) : ∀ j, j < fs.length → fid fs j ≠ id := by
  intro j hj e
  refine h ?_
  unfold firstF
  exact List.findIdx_lt_length_of_exists ⟨fs[j], List.getElem_mem hj, by simp [fid_get hj, e]⟩

end Go.Proofs.YtccgbengfmlgbaaGreat

namespace Go.Proofs.YtccgbengfmlgbaaGreat
set_option linter.unusedVariables false
open Go.ChangeShapes Go.WideShapes Go.ChangeAt Go.RowKit Go.Deep

/-- the blocks of a thing's parts -/
def inPart (p : Pl) (x : Nat) : Prop := blk p.1.1 = some x ∨ blk p.2.1 = some x

/-- a list that is being built -/
structure Built (w : World) (lo : Nat) (v : Value) (k : Nat) (fs : List Ft) (ad : Nat → Pl) : Prop where
  row : w.ownsRow lo 34 4 v k (flatF fs ad k)
  pts : ∀ i, i < k → PtsAt w (ad i).1.1 (fps fs i) ∧ Soft w (ad i).1.1 (fps fs i).length
  tags : ∀ i, i < k → TagsAt w (ad i).2.1 (fts fs i) ∧ Soft w (ad i).2.1 (fts fs i).length
  rng : ∀ i, i < k → ∀ x, inPart (ad i) x → lo ≤ x ∧ x < w.heap.size ∧ v.ownBlock ≠ some x
  two : ∀ i, i < k → Apart (ad i).1.1 (ad i).2.1
  far : ∀ i j, i < j → j < k → ∀ x, inPart (ad i) x → ¬ inPart (ad j) x

theorem built_none (w : World) (lo : Nat) (fs : List Ft) (ad : Nat → Pl) : Built w lo (.slice none 0 0) 0 fs ad :=
  ⟨World.ownsRow_nil _ _ _ _, fun _ h => absurd h (Nat.not_lt_zero _), fun _ h => absurd h (Nat.not_lt_zero _), fun _ h => absurd h (Nat.not_lt_zero _), fun _ h => absurd h (Nat.not_lt_zero _), fun _ _ _ h => absurd h (Nat.not_lt_zero _)⟩

theorem Built.below {w w' : World} {lo : Nat} {v : Value} {k : Nat} {fs : List Ft} {ad : Nat → Pl} (h : Built w lo v k fs ad) (hb : Below w.heap.size w w') : Built w' lo v k fs ad :=
  ⟨ownsRow_below h.row hb, fun i hi => ⟨(h.pts i hi).1.below hb, (h.pts i hi).2.below (h.pts i hi).1 hb⟩, fun i hi => ⟨(h.tags i hi).1.below hb, (h.tags i hi).2.belowT (h.tags i hi).1 hb⟩, fun i hi x hx => ⟨(h.rng i hi x hx).1, Nat.lt_of_lt_of_le (h.rng i hi x hx).2.1 hb.size, (h.rng i hi x hx).2.2⟩, h.two, h.far⟩

/-- one more thing, appended -/
theorem Built.step {wr w3 wb wa : World} {lo : Nat} {v : Value} {k : Nat} {fs : List Ft} {ad : Nat → Pl} {p : Pl} {gg cap' : Nat} (h : Built wr lo v k fs ad) (hlo : lo ≤ wr.heap.size) (hb : Below wr.heap.size wr w3) (h3 : Below w3.heap.size w3 wb) (hz : wb.heap.size = w3.heap.size + 1)
    (hp : PtsAt w3 p.1.1 (fps fs k)) (hps : Soft w3 p.1.1 (fps fs k).length) (hpf : Fresh wr w3 p.1.1) (ht : TagsAt w3 p.2.1 (fts fs k)) (hts : Soft w3 p.2.1 (fts fs k).length) (htf : Fresh wr w3 p.2.1) (hap : Apart p.1.1 p.2.1)
    (hrow : wa.ownsRow lo 34 4 (.slice (some ⟨gg, 0, none⟩) (k + 1) cap') (k + 1) (flatF fs ad k ++ cellsF (fg fs k) p)) (hg : wb.grownBy wa v.ownBlock) (hat : v.ownBlock = some gg ∨ gg = w3.heap.size + 1) :
    Built wa lo (.slice (some ⟨gg, 0, none⟩) (k + 1) cap') (k + 1) fs (plSet ad k p) := by
  have hbb : Below wr.heap.size wr wb := hb.trans (h3.mono hb.size)
  have hB := h.below hbb
  have hvl : ∀ x, v.ownBlock = some x → x < wr.heap.size := fun x hx => (h.row.lt x hx).2
  have ht' : Turned wb wa (fun x => v.ownBlock = some x) := Turned.of_grown hg fun x hx => hx
  have hwz := hg.size
  have hfr : ∀ x, inPart p x → wr.heap.size ≤ x ∧ x < w3.heap.size := fun x hx => hx.elim (hpf x) (htf x)
  have hs3 := hb.size
  have nv : ∀ x, inPart p x → ¬ v.ownBlock = some x := fun x hx e => by have h1 := (hfr x hx).1; have h2 := hvl x e; omega
  have gne : ∀ x, x < w3.heap.size → ¬ v.ownBlock = some x → gg ≠ x := fun x hx hn e => by
    rcases hat with h1 | h1
    · exact hn (by rw [h1, e])
    · omega
  have own' : ∀ x, (Value.slice (some ⟨gg, 0, none⟩) (k + 1) cap').ownBlock = some x → gg = x := fun x hx => by simpa [Value.ownBlock] using hx
  refine ⟨?_, fun i hi => ?_, fun i hi => ?_, fun i hi x hx => ?_, fun i hi => ?_, fun i j hij hj x hx hy => ?_⟩
  · rw [flatF_succ, flatF_set _ _ _ _ _ (Nat.le_refl _), plSet_at]
    exact hrow
  · by_cases e : i = k
    · subst e
      rw [plSet_at]
      have q := hp.below h3
      exact ⟨q.turned ht' fun x hx => nv x (.inl hx), (hps.below hp h3).turnedP q ht' fun x hx => nv x (.inl hx)⟩
    · rw [plSet_lt (by omega)]
      obtain ⟨q1, q2⟩ := hB.pts i (by omega)
      have n : ∀ x, blk (ad i).1.1 = some x → ¬ v.ownBlock = some x := fun x hx e => (h.rng i (by omega) x (.inl hx)).2.2 e
      exact ⟨q1.turned ht' n, q2.turnedP q1 ht' n⟩
  · by_cases e : i = k
    · subst e
      rw [plSet_at]
      have q := ht.below h3
      exact ⟨q.turned ht' fun x hx => nv x (.inr hx), (hts.belowT ht h3).turnedT q ht' fun x hx => nv x (.inr hx)⟩
    · rw [plSet_lt (by omega)]
      obtain ⟨q1, q2⟩ := hB.tags i (by omega)
      have n : ∀ x, blk (ad i).2.1 = some x → ¬ v.ownBlock = some x := fun x hx e => (h.rng i (by omega) x (.inr hx)).2.2 e
      exact ⟨q1.turned ht' n, q2.turnedT q1 ht' n⟩
  · by_cases e : i = k
    · subst e
      rw [plSet_at] at hx
      obtain ⟨q1, q2⟩ := hfr x hx
      exact ⟨by omega, by omega, fun e => gne x q2 (nv x hx) (own' x e)⟩
    · rw [plSet_lt (by omega)] at hx
      obtain ⟨q1, q2, q3⟩ := h.rng i (by omega) x hx
      exact ⟨q1, by omega, fun e => gne x (by omega) q3 (own' x e)⟩
  · by_cases e : i = k
    · subst e
      rw [plSet_at]
      exact hap
    · rw [plSet_lt (by omega)]
      exact h.two i (by omega)
  · rw [plSet_lt (by omega)] at hx
    by_cases e : j = k
    · subst e
      rw [plSet_at] at hy
      have h1 := (hfr x hy).1
      have h2 := (h.rng i (by omega) x hx).2.1
      omega
    · rw [plSet_lt (by omega)] at hy
      exact h.far i j hij (by omega) x hx hy

/-- a built list lies in memory of its own -/
theorem Built.lies {w : World} {lo b cap : Nat} {fs : List Ft} {ad : Nat → Pl} (h : Built w lo (.slice (some ⟨b, 0, none⟩) fs.length cap) fs.length fs ad) : Lies w b 0 fs ad ∧ Sep b fs.length ad ∧ (∀ x, blocksOf b fs.length ad x → lo ≤ x ∧ x < w.heap.size) := by
  obtain ⟨h1, ⟨h2, _⟩ | ⟨g, cap2, cur, e, hb, hg, hc, hm, hs, hx⟩⟩ := h.row
  · simp at h2
  · obtain ⟨rfl, rfl⟩ : b = g ∧ cap = cap2 := by simpa using e
    have hlt : b < w.heap.size := (Array.getElem?_eq_some_iff.1 hg).1
    have cell : ∀ j v, j < fs.length * 4 → (flatF fs ad fs.length)[j]? = some v → w.cell? ⟨b, 0 + j, none⟩ = some v := by
      intro j v hj hv
      rw [← hx, List.getElem?_take, if_pos hj] at hv
      simp only [World.cell?, hg, Option.isSome_none, Bool.false_eq_true, if_false, Nat.zero_add]
      simpa using hv
    refine ⟨⟨fun i hi => ?_, fun i hi => ?_, h.pts, h.tags, hlt⟩, ⟨fun i hi => ?_, h.two, fun i j hi hj hne => ?_⟩, ?_⟩
    · have f := fun o ho => flatF_at fs ad fs.length i o hi ho
      exact ⟨cell _ _ (by omega) (f 0 (by omega)), cell _ _ (by omega) (f 1 (by omega)), cell _ _ (by omega) (f 2 (by omega)), cell _ _ (by omega) (f 3 (by omega))⟩
    · constructor <;> simp [World.frozen?, hg]
    · exact ⟨fun e => (h.rng i hi b (.inl e)).2.2 rfl, fun e => (h.rng i hi b (.inr e)).2.2 rfl⟩
    · have key : ∀ x, inPart (ad i) x → ¬ inPart (ad j) x := by
        rcases Nat.lt_or_gt_of_ne hne with q | q
        · exact h.far i j q hj
        · exact fun x hx hy => h.far j i q hi x hy hx
      exact ⟨fun x hx hy => key x (.inl hx) (.inl hy), fun x hx hy => key x (.inl hx) (.inr hy), fun x hx hy => key x (.inr hx) (.inl hy), fun x hx hy => key x (.inr hx) (.inr hy)⟩
    · rintro x (rfl | ⟨i, hi, e⟩)
      · exact ⟨hb, hlt⟩
      · exact ⟨(h.rng i hi x e).1, (h.rng i hi x e).2.1⟩

end Go.Proofs.YtccgbengfmlgbaaGreat

namespace Go.Proofs.YtccgbengfmlgbaaGreat
set_option linter.unusedVariables false
open Go.ChangeShapes Go.WideShapes Go.ChangeAt Go.RowKit Go.Deep Go.Maps

/-- what a look-up of a name that is there gives -/
theorem look_heldF {w : World} {b n : Nat} {D : DataW Value} {us : List En} (hown : w.ownsMap Tryz.prog 9 heldElem b n D) (ht : TellsF D us) {i : Nat} (hi : i < us.length) (hl : (ek us i).size ≤ maxLen) :
    (Instr.lookup 92 (.map (some b)) (.string (ek us i)) false).run Tryz.prog w = .ok (ev us i) w := by
  have hz : (zeroValue 34).run Tryz.prog w = .ok (.agg #[.string .empty, .int .i64 0, .slice none 0 0, .slice none 0 0]) w := by kernel_rfl
  obtain ⟨v, ps, hrun, hv⟩ := hown.lookup keyT Tryz.underlying92 hz (zd := .held (.agg #[.string .empty, .int .i64 0, .slice none 0 0, .slice none 0 0])) (zp := []) rfl (Go.WideMaps.keyOf_string_mk Tryz.underlying9 hl)
  have hm : us[i] ∈ us := List.getElem_mem hi
  have e : (ek us i) = us[i].1 := by simp [ek, hi]
  have e2 : (ev us i) = us[i].2 := by simp [ev, hi]
  have h1 := ht.at_ us[i] hm (.held (.agg #[.string .empty, .int .i64 0, .slice none 0 0, .slice none 0 0]))
  rw [e] at hv
  rw [show (DataW.atKey D (.string us[i].1.data.toList) (.held (.agg #[.string .empty, .int .i64 0, .slice none 0 0, .slice none 0 0]))) = .held (entV us[i]) from h1] at hv
  simp only [heldElem, Option.some.injEq, Prod.mk.injEq] at hv
  have h3 := DataW.held.inj hv.1
  rw [hrun, h3, e2]
  rfl

theorem Built.mono {w : World} {lo lo' : Nat} {v : Value} {k : Nat} {fs : List Ft} {ad : Nat → Pl} (h : Built w lo v k fs ad) (hl : lo' ≤ lo) : Built w lo' v k fs ad :=
  ⟨ownsRow_base h.row hl, h.pts, h.tags, fun i hi x hx => ⟨Nat.le_trans hl (h.rng i hi x hx).1, (h.rng i hi x hx).2⟩, h.two, h.far⟩

end Go.Proofs.YtccgbengfmlgbaaGreat

namespace Go.Proofs.YtccgbengfmlgbaaGreat
set_option linter.unusedVariables false
open Go.ChangeShapes Go.WideShapes Go.ChangeAt Go.RowKit Go.Deep Go.Maps

/-- the things of other names -/
def cutL (fs : List Ft) (id : ByteArray) : List Ft := fs.filter (fun f => decide (f.1 ≠ id))
/-- what a map without a name is -/
def cutR (fs : List Ft) (id : ByteArray) : List Ft := if getHas fs id then cutL fs id else []

theorem ents_cons {w : World} {e : En} {es : List En} {f : Ft} {fs : List Ft} : Ents w (e :: es) (f :: fs) ↔ (e.1 = f.1 ∧ FeatV w e.2 f) ∧ Ents w es fs := by
  constructor
  · rintro ⟨h1, h2⟩
    refine ⟨?_, by simpa using h1, fun i hi => ?_⟩
    · have := h2 0 (by simp)
      simpa [ek, ev, fid, fg] using this
    · have := h2 (i + 1) (by simpa using hi)
      simpa [ek, ev, fid, fg] using this
  · rintro ⟨h0, h1, h2⟩
    refine ⟨by simpa using h1, fun i hi => ?_⟩
    cases i with
    | zero => simpa [ek, ev, fid, fg] using h0
    | succ i =>
      have := h2 i (by simpa using hi)
      simpa [ek, ev, fid, fg] using this

theorem ents_cut {w : World} (id : ByteArray) : ∀ {es : List En} {fs : List Ft}, Ents w es fs → Ents w (cutF es id.data.toList) (cutL fs id)
  | [], [], h => h
  | [], f :: fs, h => absurd h.1 (by simp)
  | e :: es, [], h => absurd h.1 (by simp)
  | e :: es, f :: fs, h => by
    obtain ⟨⟨h1, h2⟩, h3⟩ := ents_cons.1 h
    have ih := ents_cut id h3
    have he : (klF e ≠ id.data.toList) ↔ f.1 ≠ id := by
      unfold klF
      rw [h1]
      constructor
      · intro h e
        exact h (by rw [e])
      · intro h e
        refine h ?_
        rw [← toList_inj, ByteArray.toList_eq, ByteArray.toList_eq]
        exact e
    unfold cutF cutL at ih ⊢
    by_cases hf : f.1 ≠ id
    · rw [List.filter_cons_of_pos (by simpa using he.2 hf), List.filter_cons_of_pos (by simpa using hf)]
      exact ents_cons.2 ⟨⟨h1, h2⟩, ih⟩
    · rw [List.filter_cons_of_neg (by simpa using fun h => hf (he.1 h)), List.filter_cons_of_neg (by simpa using hf)]
      exact ih

theorem cutL_lens {fs : List Ft} {m : Int} (id : ByteArray) (h : FeatsLen fs m) : FeatsLen (cutL fs id) m := featsLen_iff.2 fun f hf => featsLen_iff.1 h f ((List.mem_filter.1 hf).1)
theorem cutL_len (fs : List Ft) (id : ByteArray) : (cutL fs id).length ≤ fs.length := List.length_filter_le _ _

/-- what a function answers that makes a list of things, and says whether -/
def ListAns (w : World) (gs : List Ft) (b : Bool) (e : Ending) (w' : World) : Prop :=
  (∃ v ad, e = .returned (.tuple #[v, .bool b]) ∧ Built w' w.heap.size v gs.length gs ad) ∧ Below w.heap.size w w'

end Go.Proofs.YtccgbengfmlgbaaGreat

namespace Go.Proofs.YtccgbengfmlgbaaGreat
set_option linter.unusedVariables false
open Go.ChangeShapes Go.WideShapes Go.ChangeAt Go.RowKit Go.Deep

/-- a list whose memory lies between these blocks -/
def GotL (lo hi : Nat) (w : World) (v : Value) (fs : List Ft) : Prop :=
  ∃ a cap, v = .slice a fs.length cap ∧ FeatsAt w a fs ∧ ∀ i, i < fs.length → ∃ b off pa pc ta tc, a = some ⟨b, off, none⟩ ∧ lo ≤ b ∧ b < hi ∧
    w.cell? ⟨b, off + i * 4 + 2, none⟩ = some (.slice pa (fps fs i).length pc) ∧ w.cell? ⟨b, off + i * 4 + 3, none⟩ = some (.slice ta (fts fs i).length tc) ∧
    ((fps fs i).length = 0 ∨ ∀ x, blk pa = some x → lo ≤ x ∧ x < hi) ∧ ((fts fs i).length = 0 ∨ ∀ x, blk ta = some x → lo ≤ x ∧ x < hi)

theorem GotL.turned {lo hi : Nat} {w w' : World} {v : Value} {fs : List Ft} {S : Nat → Prop} (h : GotL lo hi w v fs) (ht : Turned w w' S) (hS : ∀ x, lo ≤ x → x < hi → ¬ S x) : GotL lo hi w' v fs := by
  obtain ⟨a, cap, rfl, hF, hR⟩ := h
  refine ⟨a, cap, rfl, fun i hi => ?_, fun i hi => ?_⟩
  · obtain ⟨b, off, pa, pc, ta, tc, rfl, hb1, hb2, h3, h4, h5, h6⟩ := hR i hi
    obtain ⟨b', off', pa', pc', ta', tc', e, hlt, g1, g2, g3, g4, g5, g6⟩ := hF i hi
    obtain ⟨rfl, rfl⟩ : b = b' ∧ off = off' := by simpa using e
    rw [h3] at g3
    rw [h4] at g4
    obtain ⟨rfl, rfl⟩ : pa = pa' ∧ pc = pc' := by simpa using g3
    obtain ⟨rfl, rfl⟩ : ta = ta' ∧ tc = tc' := by simpa using g4
    have nb : ¬ S b := hS b hb1 hb2
    exact ⟨b, off, pa, pc, ta, tc, rfl, Nat.lt_of_lt_of_le hlt ht.size, ht.cell g1 nb, ht.cell g2 nb, ht.cell h3 nb, ht.cell h4 nb, g5.turned0 ht (h5.imp (fun h => h) fun q x hx => hS x (q x hx).1 (q x hx).2), g6.turned0 ht (h6.imp (fun h => h) fun q x hx => hS x (q x hx).1 (q x hx).2)⟩
  · obtain ⟨b, off, pa, pc, ta, tc, rfl, hb1, hb2, h3, h4, h5, h6⟩ := hR i hi
    have nb : ¬ S b := hS b hb1 hb2
    exact ⟨b, off, pa, pc, ta, tc, rfl, hb1, hb2, ht.cell h3 nb, ht.cell h4 nb, h5, h6⟩

theorem GotL.below {lo hi : Nat} {w w' : World} {v : Value} {fs : List Ft} (h : GotL lo hi w v fs) (hb : Below w.heap.size w w') : GotL lo hi w' v fs := h.turned (S := fun _ => False) (Turned.of_below hb) fun _ _ _ h => h
theorem GotL.mono {lo hi lo' hi' : Nat} {w : World} {v : Value} {fs : List Ft} (h : GotL lo hi w v fs) (h1 : lo' ≤ lo) (h2 : hi ≤ hi') : GotL lo' hi' w v fs := by
  obtain ⟨a, cap, rfl, hF, hR⟩ := h
  refine ⟨a, cap, rfl, hF, fun i hi => ?_⟩
  obtain ⟨b, off, pa, pc, ta, tc, rfl, hb1, hb2, h3, h4, h5, h6⟩ := hR i hi
  exact ⟨b, off, pa, pc, ta, tc, rfl, by omega, by omega, h3, h4, h5.imp (fun h => h) fun q x hx => ⟨by have := (q x hx).1; omega, by have := (q x hx).2; omega⟩, h6.imp (fun h => h) fun q x hx => ⟨by have := (q x hx).1; omega, by have := (q x hx).2; omega⟩⟩
theorem gotL_nil (lo hi : Nat) (w : World) (a : Option Addr) (cap : Nat) : GotL lo hi w (.slice a 0 cap) [] := ⟨a, cap, rfl, FeatsAt.nil _ _, fun _ h => absurd h (Nat.not_lt_zero _)⟩

theorem Row.got {w : World} {lo : Nat} {v : Value} {fs : List Ft} {ad : Nat → Pl} (h : Row w (fun x => lo ≤ x) lo v fs.length fs ad) : GotL lo w.heap.size w v fs := by
  obtain ⟨a, cap, rfl, hF, hR⟩ := h.reads
  refine ⟨a, cap, rfl, hF, fun i hi => ?_⟩
  obtain ⟨b, off, rfl, h1, h2, h3, h4⟩ := hR i hi
  exact ⟨b, off, _, _, _, _, rfl, h1, h2, h3, h4, (h.prng i hi).imp (fun h => h) fun q x hx => ⟨(q x hx).1, (q x hx).2.1⟩, (h.trng i hi).imp (fun h => h) fun q x hx => ⟨(q x hx).1, (q x hx).2.1⟩⟩

/-- how many of the first things stay -/
def cutN (fs : List Ft) (id : ByteArray) (j : Nat) : Nat := (cutL (fs.take j) id).length

theorem cutL_append (xs ys : List Ft) (id : ByteArray) : cutL (xs ++ ys) id = cutL xs id ++ cutL ys id := List.filter_append _ _
theorem cut_split {fs : List Ft} {j : Nat} (h : j < fs.length) : fs = fs.take j ++ fg fs j :: fs.drop (j + 1) := by
  rw [fg_get h, ← List.drop_eq_getElem_cons h, List.take_append_drop]
theorem cutN_yes {fs : List Ft} {id : ByteArray} {j : Nat} (h : j < fs.length) (hne : fid fs j ≠ id) : cutN fs id (j + 1) = cutN fs id j + 1 ∧ fg (cutL fs id) (cutN fs id j) = fg fs j ∧ cutN fs id j < (cutL fs id).length := by
  have e1 : cutL [fg fs j] id = [fg fs j] := by
    unfold cutL
    rw [List.filter_cons_of_pos (by simpa [fid] using hne)]
    rfl
  have e2 : cutL fs id = cutL (fs.take j) id ++ fg fs j :: cutL (fs.drop (j + 1)) id := by
    conv => lhs; rw [cut_split h]
    rw [cutL_append, show fg fs j :: fs.drop (j + 1) = [fg fs j] ++ fs.drop (j + 1) from rfl, cutL_append, e1]
    rfl
  refine ⟨?_, ?_, ?_⟩
  · unfold cutN
    rw [List.take_succ_eq_append_getElem h, ← fg_get h, cutL_append, e1]
    simp
  · rw [e2]
    unfold cutN fg
    simp
  · rw [e2]
    unfold cutN
    simp
theorem cutN_no {fs : List Ft} {id : ByteArray} {j : Nat} (h : j < fs.length) (he : fid fs j = id) : cutN fs id (j + 1) = cutN fs id j := by
  have e1 : cutL [fg fs j] id = [] := by
    unfold cutL
    rw [List.filter_cons_of_neg (by simpa [fid] using he)]
    rfl
  unfold cutN
  rw [List.take_succ_eq_append_getElem h, ← fg_get h, cutL_append, e1]
  simp
theorem cutN_all (fs : List Ft) (id : ByteArray) : cutN fs id fs.length = (cutL fs id).length := by unfold cutN; rw [List.take_length]
end Go.Proofs.YtccgbengfmlgbaaGreat

namespace Go.Proofs.YtccgbengfmlgbaaGreat
set_option linter.unusedVariables false
open Go.ChangeShapes Go.WideShapes Go.ChangeAt Go.RowKit

theorem lmkTo_full {fs : List Ft} (k : Int) {i : Nat} (h : i < fs.length) : fid (lmkTo fs k fs.length) i = markT (lmk fs k i) ∧ fkd (lmkTo fs k fs.length) i = lmk fs k i + 1 ∧ fps (lmkTo fs k fs.length) i = marks (lmk fs k i + 2) (fps fs i).length ∧ fts (lmkTo fs k fs.length) i = marksT (lmk fs k i + 2 + 2 * ((fps fs i).length : Int)) (fts fs i).length := by
  unfold fid fkd
  have e : fg (lmkTo fs k fs.length) i = lmkF fs k i := by rw [lmkTo_at k _ h, if_pos h]
  have e3 : fps (lmkTo fs k fs.length) i = (lmkF fs k i).2.2.1 := by rw [← e]; rfl
  have e4 : fts (lmkTo fs k fs.length) i = (lmkF fs k i).2.2.2 := by rw [← e]; rfl
  rw [e, e3, e4]
  exact ⟨rfl, rfl, rfl, rfl⟩

/-- a list that lies in memory of its own between these blocks -/
def ListH (lo hi : Nat) (w : World) (a : Option Addr) (gs : List Ft) : Prop :=
  gs = [] ∨ ∃ b ad, a = some ⟨b, 0, none⟩ ∧ Lies w b 0 gs ad ∧ Sep b gs.length ad ∧ ∀ x, blocksOf b gs.length ad x → lo ≤ x ∧ x < hi

theorem Built.listH {w : World} {lo : Nat} {v : Value} {gs : List Ft} {ad : Nat → Pl} (h : Built w lo v gs.length gs ad) : ∃ a cap, v = .slice a gs.length cap ∧ ListH lo w.heap.size w a gs := by
  obtain ⟨h1, ⟨h2, h3⟩ | ⟨b, cap, cur, rfl, _⟩⟩ := h.row
  · exact ⟨none, 0, by rw [h2, h3], .inl (List.eq_nil_of_length_eq_zero h3)⟩
  · exact ⟨some ⟨b, 0, none⟩, cap, rfl, .inr ⟨b, ad, rfl, h.lies.1, h.lies.2.1, h.lies.2.2⟩⟩

theorem ListH.reads {lo hi : Nat} {w : World} {a : Option Addr} {gs : List Ft} (h : ListH lo hi w a gs) : FeatsAt w a gs := by
  rcases h with rfl | ⟨b, ad, rfl, h, _⟩
  · exact FeatsAt.nil _ _
  · exact h.reads

theorem ListH.turned {lo hi : Nat} {w w' : World} {a : Option Addr} {gs : List Ft} {S : Nat → Prop} (h : ListH lo hi w a gs) (ht : Turned w w' S) (hS : ∀ x, lo ≤ x → x < hi → ¬ S x) : ListH lo hi w' a gs := by
  rcases h with rfl | ⟨b, ad, rfl, h, h2, h3⟩
  · exact .inl rfl
  · exact .inr ⟨b, ad, rfl, h.turned ht (fun x hx => hS x (h3 x hx).1 (h3 x hx).2), h2, h3⟩

theorem ListH.below {lo hi : Nat} {w w' : World} {a : Option Addr} {gs : List Ft} (h : ListH lo hi w a gs) (hb : Below w.heap.size w w') : ListH lo hi w' a gs := h.turned (S := fun _ => False) (Turned.of_below hb) fun _ _ _ h => h

theorem GotL.reads {lo hi : Nat} {w : World} {a : Option Addr} {cap : Nat} {gs : List Ft} (h : GotL lo hi w (.slice a gs.length cap) gs) : FeatsAt w a gs := by
  obtain ⟨a', cap', e, h, _⟩ := h
  obtain ⟨rfl, rfl⟩ : a = a' ∧ cap = cap' := by simpa using e
  exact h

set_option maxRecDepth 100000 in
theorem markFeatS_nil (a : Option Addr) (cap : Nat) (k : Int) (w : World) :
    Calls Tryz.prog 23 #[.slice a 0 cap, .int .i64 k] w fun e w' => e = .returned (.int .i64 k) ∧ w' = w := by
  go_enter Tryz.func23, Tryz.ntmps23
  go_wp2
  go_loop [1, 5] (fun s1 i => s1 = .int .i64 k ∧ i = .int .i64 0) (fun _ _ => 0)
  case atStart => exact ⟨rfl, rfl⟩
  case round =>
    obtain ⟨rfl, rfl⟩ := hrel
    go_wp2
    go_ret
    exact ⟨rfl, rfl⟩

theorem markFeatS_list (lo hi : Nat) (a : Option Addr) (cap : Nat) (gs : List Ft) (k : Int) (w : World) (hl : gs.length ≤ 1048576) (hL : FeatsLen gs 1048576) (h0 : 0 ≤ k) (h4 : k ≤ 1000000000000000) (h : ListH lo hi w a gs) :
    Calls Tryz.prog 23 #[.slice a gs.length cap, .int .i64 k] w fun e w' => e = .returned (.int .i64 (lmk gs k gs.length)) ∧ FeatsAt w' a (lmkTo gs k gs.length) ∧ Turned w w' (fun x => lo ≤ x ∧ x < hi) := by
  rcases h with rfl | ⟨b, ad, rfl, h, h2, h3⟩
  · refine (markFeatS_nil a cap k w).mono fun e w' ⟨he, hw⟩ => ?_
    subst hw
    exact ⟨he, FeatsAt.nil _ _, Turned.refl _ _⟩
  · refine (markFeatS_some b 0 cap gs ad k w hl hL h0 h4 h h2).mono fun e w' ⟨he, hlie, ht⟩ => ⟨he, hlie.reads, ht.os, ht.tape, ht.output, ht.size, fun x hx hn => ht.block x hx fun hb => hn (h3 x hb)⟩

set_option maxRecDepth 100000 in
set_option maxHeartbeats 4000000 in
theorem heldFeatS_any (a : Option Addr) (cap : Nat) (fs : List Ft) (k : Int) (w : World) (hp : FeatsAt w a (lmkTo fs k fs.length)) (hl : fs.length ≤ 1048576) (hL : FeatsLen fs 1048576) (h0 : 0 ≤ k) (h4 : k ≤ 1000000000000000) :
    Calls Tryz.prog 25 #[.slice a fs.length cap, .int .i64 k] w fun e w' => e = .returned (.int .i64 (lmk fs k fs.length)) ∧ Below w.heap.size w w' := by
  have HP := Lib.hid hp
  have HL := Lib.hid hL
  clear hp hL
  go_enter Tryz.func25, Tryz.ntmps25
  go_wp2
  go_loopw [1, 5] (fun q i wr => ∃ j : Nat, j ≤ fs.length ∧ i = .int .i64 j ∧ q = .int .i64 (lmk fs k j) ∧ Below w.heap.size w wr) (fun _ i _ => fs.length - (intOf i).toNat)
  case atStart => exact ⟨0, Nat.zero_le _, rfl, rfl, Below.refl _ _⟩
  case round =>
    obtain ⟨j, hj, rfl, rfl, hbel⟩ := hrel
    have HB := Lib.hid hbel
    by_cases hlt : j < fs.length
    · obtain ⟨b, off, pa, pc, ta, tc, rfl, hb, d1, d2, d3, d4, hpp, htt⟩ := HP.out j (by rw [lmkTo_len]; exact hlt)
      obtain ⟨f1, f2, f3, f4⟩ := lmkTo_full k hlt
      rw [f3, marks_len] at d3
      rw [f4, marksT_len] at d4
      rw [f3] at hpp
      rw [f4] at htt
      rw [f1] at d1
      rw [f2] at d2
      rw [← hbel.cell (p := ⟨b, _, none⟩) hb] at d1 d2 d3 d4
      obtain ⟨k0, k1⟩ := lmk_le h0 h4 HL.out j hj
      obtain ⟨l1, l2, l3, l4⟩ := HL.out j hlt
      have D1 := Lib.hid (hpp.below hbel)
      have D2 := Lib.hid (htt.below hbel)
      have HN : Hid (lmk fs k (j + 1) = lmk fs k j + 2 + 2 * ((fps fs j).length : Int) + 2 * ((fts fs j).length : Int)) := rfl
      clear hbel hpp htt l4 f1 f2 f3 f4
      generalize lmk fs k j = m at *
      have e1 : ((markT m).toList == (markT m).toList) = true := by simp
      have e2 : (m + 1 != m + 1) = false := by simp
      go_upto_region 4 with (fail)
      go_cut [19] (fun s19 wx => s19 = .bool false ∧ Below wr.heap.size wr wx)
      case first =>
        go_region_held3 (fun w' => w'.cell? ⟨b, off + j * 4, none⟩ = some (.string (markT m)) ∧ Below wr.heap.size wr w')
          (first
            | exact ⟨d1, (Below.refl _ _).drew⟩
            | (go_split_ands
               rename_i hS0 hS1
               exact ⟨cell_later hbn hS0, hS1.trans (hbn.mono hS1.size)⟩))
          (first
            | (go_at_call 52
               refine (markText_any _ _ (by omega)).mono ?_
               rintro e wn ⟨rfl, hbn⟩))
        all_goals (go_wp2_with fail; go_meet; go_split_ands; exact ⟨by simp, by assumption⟩)
      case rest =>
        obtain ⟨rfl, hB⟩ := hcut
        replace d2 := cell_later hB d2
        replace d3 := cell_later hB d3
        replace d4 := cell_later hB d4
        replace D1 := Lib.hid (D1.out.below hB)
        replace D2 := Lib.hid (D2.out.below hB)
        have B1 : Hid (Below w.heap.size w _) := HB.out.trans (hB.mono HB.out.size)
        clear hB d1 e1
        go_wp2_with fail
        refine (heldPtS_any _ _ _ _ _ (show PtsAt _ _ (marks (m + 1 + 1) _) by rw [show m + 1 + 1 = m + 2 by omega]; exact D1.out) (by omega) (by omega) (by omega)).mono ?_
        rintro e w2 ⟨rfl, rfl⟩
        go_wp2_with fail
        refine (heldTagS_any _ _ _ _ _ (show TagsAt _ _ (marksT (m + 1 + 1 + 2 * ((fps fs j).length : Int)) _) by rw [show m + 1 + 1 = m + 2 by omega]; exact D2.out) (by omega) (by omega) (by omega)).mono ?_
        rintro e w3 ⟨rfl, hb3⟩
        have B3 : Hid (Below w.heap.size w w3) := B1.out.trans (hb3.mono B1.out.size)
        clear hb3 d2 d3 d4
        go_wp2
        go_roundw
        case rel => exact ⟨j + 1, by omega, by go_num, congrArg (Value.int .i64) (by rw [HN.out]; omega), B3.out⟩
        case measure => simp [intOf]; omega
    · obtain rfl : j = fs.length := by omega
      clear hbel
      go_wp2
      go_ret
      exact ⟨rfl, HB.out⟩
end Go.Proofs.YtccgbengfmlgbaaGreat

namespace Go.Proofs.YtccgbengfmlgbaaGreat
set_option linter.unusedVariables false
open Go.ChangeShapes Go.WideShapes Go.ChangeAt Go.RowKit Go.Deep Go.Maps

theorem putL_pos {fs : List Ft} {t : Ft} (h : ∀ f ∈ fs, 0 < f.2.2.1.length) (ht : 0 < t.2.2.1.length) : ∀ f ∈ putL fs t, 0 < f.2.2.1.length := fun f hf => by
  rcases putL_mem hf with rfl | h'
  · exact ht
  · exact h f h'

/-- the map's entries with one put tell the things with one put -/
theorem ents_put {w : World} {e : En} {t : Ft} (he : e.1 = t.1) (hv : FeatV w e.2 t) : ∀ {es : List En} {fs : List Ft}, Ents w es fs → Ents w (putF es e) (putL fs t)
  | [], [], _ => by
    unfold putF putL
    exact ents_cons.2 ⟨⟨he, hv⟩, rfl, fun i hi => absurd hi (Nat.not_lt_zero _)⟩
  | [], f :: fs, h => absurd h.1 (by simp)
  | e' :: es, [], h => absurd h.1 (by simp)
  | e' :: es, f :: fs, h => by
    obtain ⟨⟨h1, h2⟩, h3⟩ := ents_cons.1 h
    have k1 : klF e' = kf f := by unfold klF kf; rw [h1]
    have k2 : klF e = kf t := by unfold klF kf; rw [he]
    unfold putF putL
    rw [k1, k2]
    by_cases hle : kf t ≤ kf f
    · rw [if_pos hle, if_pos hle]
      have hc := ents_cut t.1 h
      have c1 : cutF (e' :: es) t.1.data.toList = (e' :: es).filter (fun s => decide (klF s ≠ kf t)) := rfl
      have c2 : cutL (f :: fs) t.1 = (f :: fs).filter (fun s => decide (kf s ≠ kf t)) := by
        unfold cutL
        refine List.filter_congr fun x _ => ?_
        have : (x.1 ≠ t.1) ↔ (kf x ≠ kf t) := by
          constructor
          · intro h e
            refine h ?_
            rw [← toList_inj, ByteArray.toList_eq, ByteArray.toList_eq]
            exact e
          · intro h e
            exact h (by unfold kf; rw [e])
        exact decide_eq_decide.2 this
      rw [← c1, ← c2]
      exact ents_cons.2 ⟨⟨he, hv⟩, hc⟩
    · rw [if_neg hle, if_neg hle]
      exact ents_cons.2 ⟨⟨h1, h2⟩, ents_put he hv h3⟩

end Go.Proofs.YtccgbengfmlgbaaGreat

namespace Go.Proofs.YtccgbengfmlgbaaGreat
set_option linter.unusedVariables false
open Go.ChangeShapes Go.WideShapes Go.ChangeAt Go.RowKit Go.Deep Go.Maps

/-- is it a thing -/
def ftOk1 (f : Ft) : Bool := featOk f.1 f.2.1 f.2.2.1 f.2.2.2
/-- is there a map with it -/
def putHas (fs : List Ft) (f : Ft) : Bool := sheetOk fs && ftOk1 f && decide ((putL fs f).length ≤ 8)
/-- what the map with it is -/
def putRL (fs : List Ft) (f : Ft) : List Ft := if putHas fs f then putL fs f else []

/-- how many entries a map has that tells these -/
theorem size_tells {w : World} {b n : Nat} {D : DataW Value} {us : List En} (hown : w.ownsMap Tryz.prog 9 heldElem b n D) (ht : TellsF D us) : Maps.size D = us.length := by
  have h1 := (sorted_toldF hown ht (List.Perm.refl (strKeys D))).2
  have h2 : (strKeys D).length = Maps.size D := by
    obtain ⟨es, rfl⟩ := hown.isMap
    simp [strKeys, Maps.size]
  omega

end Go.Proofs.YtccgbengfmlgbaaGreat

namespace Go.Proofs.YtccgbengfmlgbaaGreat
set_option linter.unusedVariables false
open Go.ChangeShapes Go.WideShapes Go.ChangeAt Go.RowKit

/-- nothing -/
def zft : Ft := (.empty, 0, [], [])
/-- a thing is one -/
def ftGood (f : Ft) : Bool := featOk f.1 f.2.1 f.2.2.1 f.2.2.2
/-- one side of a change is right -/
def sideGood (i : ByteArray) (h : Bool) (f : Ft) : Bool := if h then ftGood f && decide (f.1 = i) else ftEq f zft
/-- a change turns something -/
def turns (h : Bool) (f : Ft) (s : Bool) (g : Ft) : Bool := (h != s) || !ftEq f g
/-- a change is right -/
def chOk (i : ByteArray) (h : Bool) (f : Ft) (s : Bool) (g : Ft) : Bool := wordOk i && (sideGood i h f && (sideGood i s g && turns h f s g))

theorem ftEq_self (f : Ft) : ftEq f f = true := by simp [ftEq]
theorem ftEq_zero {f g : Ft} (h : ftEq f zft = true) (h' : ftEq g zft = true) : ftEq f g = true := by
  simp only [ftEq, decide_eq_true_eq] at h h' ⊢
  rw [h, h']

theorem chOk_none {i : ByteArray} {f g : Ft} : chOk i false f false g = false := by
  unfold chOk sideGood turns
  cases h1 : ftEq f zft
  · simp
  · cases h2 : ftEq g zft
    · simp
    · simp [ftEq_zero h1 h2]

set_option maxRecDepth 100000 in
set_option maxHeartbeats 8000000 in
theorem l4One_any (i : ByteArray) (h : Bool) (f : Ft) (s : Bool) (g : Ft) (pa : Option Addr) (pc : Nat) (ta : Option Addr) (tc : Nat) (qa : Option Addr) (qc : Nat) (ua : Option Addr) (uc : Nat) (w : World) (hp : PtsAt w pa f.2.2.1) (ht : TagsAt w ta f.2.2.2) (hq : PtsAt w qa g.2.2.1) (hu : TagsAt w ua g.2.2.2) (li : i.size ≤ 1048576) (lf : FtLen f 1048576) (lg : FtLen g 1048576) :
    Calls Tryz.prog 120 #[.agg #[.string i, .bool h, .string f.1, .int .i64 f.2.1, .slice pa f.2.2.1.length pc, .slice ta f.2.2.2.length tc, .bool s, .string g.1, .int .i64 g.2.1, .slice qa g.2.2.1.length qc, .slice ua g.2.2.2.length uc]] w fun e w' => e = .returned (.bool (chOk i h f s g)) ∧ Below w.heap.size w w' := by
  have HP := Lib.hid hp
  have HT := Lib.hid ht
  have HQ := Lib.hid hq
  have HU := Lib.hid hu
  have LF := Lib.hid lf
  have LG := Lib.hid lg
  obtain ⟨lf1, lf2, lf3, lf4⟩ := lf
  obtain ⟨lg1, lg2, lg3, lg4⟩ := lg
  clear hp ht hq hu lf4 lg4
  have A1 : Hid (∀ o, Below w.heap.size w (w.alloc o)) := fun o => (Below.refl _ _).alloc (Nat.le_refl _) _
  have SZ : Hid (∀ u, Below w.heap.size w u → PtsAt u none [] ∧ TagsAt u none []) := fun u _ => ⟨PtsAt.nil _ _, TagsAt.nil _ _⟩
  have FG : Hid (∀ u, Below w.heap.size w u → Calls Tryz.prog 72 #[.agg #[.string f.1, .int .i64 f.2.1, .slice pa f.2.2.1.length pc, .slice ta f.2.2.2.length tc], .agg #[.string g.1, .int .i64 g.2.1, .slice qa g.2.2.1.length qc, .slice ua g.2.2.2.length uc]] u fun e w' => e = .returned (.bool (ftEq f g)) ∧ Below u.heap.size u w') := fun u hu => by
    have := specFeatSame_any f.1 g.1 f.2.1 g.2.1 pa qa pc qc f.2.2.1 g.2.2.1 ta ua tc uc f.2.2.2 g.2.2.2 u (HP.out.below hu) (HQ.out.below hu) (HT.out.below hu) (HU.out.below hu) (by omega) (by omega) (by omega) (by omega)
    rwa [featEq_ft] at this
  have FZ : Hid (∀ u, Below w.heap.size w u → Calls Tryz.prog 72 #[.agg #[.string f.1, .int .i64 f.2.1, .slice pa f.2.2.1.length pc, .slice ta f.2.2.2.length tc], .agg #[.string ⟨#[]⟩, .int .i64 0, .slice none 0 0, .slice none 0 0]] u fun e w' => e = .returned (.bool (ftEq f zft)) ∧ Below u.heap.size u w') := fun u hu => by
    have := specFeatSame_any f.1 .empty f.2.1 0 pa none pc 0 f.2.2.1 [] ta none tc 0 f.2.2.2 [] u (HP.out.below hu) (PtsAt.nil _ _) (HT.out.below hu) (TagsAt.nil _ _) (by omega) (by simp) (by omega) (by simp)
    rw [show featEq f.1 .empty f.2.1 0 f.2.2.1 [] f.2.2.2 [] = ftEq f zft from featEq_ft f zft] at this
    exact this
  have GZ : Hid (∀ u, Below w.heap.size w u → Calls Tryz.prog 72 #[.agg #[.string g.1, .int .i64 g.2.1, .slice qa g.2.2.1.length qc, .slice ua g.2.2.2.length uc], .agg #[.string ⟨#[]⟩, .int .i64 0, .slice none 0 0, .slice none 0 0]] u fun e w' => e = .returned (.bool (ftEq g zft)) ∧ Below u.heap.size u w') := fun u hu => by
    have := specFeatSame_any g.1 .empty g.2.1 0 qa none qc 0 g.2.2.1 [] ua none uc 0 g.2.2.2 [] u (HQ.out.below hu) (PtsAt.nil _ _) (HU.out.below hu) (TagsAt.nil _ _) (by omega) (by simp) (by omega) (by simp)
    rw [show featEq g.1 .empty g.2.1 0 g.2.2.1 [] g.2.2.2 [] = ftEq g zft from featEq_ft g zft] at this
    exact this
  have FO : Hid (∀ u, Below w.heap.size w u → Calls Tryz.prog 38 #[.agg #[.string f.1, .int .i64 f.2.1, .slice pa f.2.2.1.length pc, .slice ta f.2.2.2.length tc]] u fun e w' => e = .returned (.bool (ftGood f)) ∧ Below u.heap.size u w') := fun u hu =>
    specFeatOk_any _ _ _ _ _ _ _ _ _ (HP.out.below hu) (HT.out.below hu) (by omega) (by omega) (by omega) LF.out.2.2.2
  have GO : Hid (∀ u, Below w.heap.size w u → Calls Tryz.prog 38 #[.agg #[.string g.1, .int .i64 g.2.1, .slice qa g.2.2.1.length qc, .slice ua g.2.2.2.length uc]] u fun e w' => e = .returned (.bool (ftGood g)) ∧ Below u.heap.size u w') := fun u hu =>
    specFeatOk_any _ _ _ _ _ _ _ _ _ (HQ.out.below hu) (HU.out.below hu) (by omega) (by omega) (by omega) LG.out.2.2.2
  clear HP HT HQ HU LF LG SZ
  have e1 := bytes_beq f.1 i
  have e2 := bytes_beq g.1 i

  cases h
  · cases s
    · go_enter Tryz.func120, Tryz.ntmps120
      go_wp2_with fail
      refine (specWordOk_any _ _ li).mono ?_
      rintro e w0 ⟨rfl, rfl⟩
      by_cases hW : wordOk i = true
      · rw [hW]
        have HW := Lib.hid hW
        clear hW
        go_wp2
        go_ret
        exact ⟨by rw [chOk_none]; rfl, A1.out _⟩
      · have hW' : wordOk i = false := by simpa using hW
        rw [hW']
        have HW := Lib.hid hW'
        clear hW hW'
        go_wp2
        go_ret
        exact ⟨by simp [chOk, sideGood, turns, HW.out], A1.out _⟩
    · go_enter Tryz.func120, Tryz.ntmps120
      go_wp2_with fail
      refine (specWordOk_any _ _ li).mono ?_
      rintro e w0 ⟨rfl, rfl⟩
      by_cases hW : wordOk i = true
      · rw [hW]
        have HW := Lib.hid hW
        clear hW
        go_wp2_with fail
        refine (FZ.out _ (A1.out _)).mono ?_
        rintro e w1 ⟨rfl, hb⟩
        have c0 := cell_later hb (a := ⟨w.heap.size, 0, none⟩) (v := .string i) (by simp [go_sem])
        have c1 := cell_later hb (a := ⟨w.heap.size, 1, none⟩) (v := .bool false) (by simp [go_sem])
        have c2 := cell_later hb (a := ⟨w.heap.size, 2, none⟩) (v := .string f.1) (by simp [go_sem])
        have c3 := cell_later hb (a := ⟨w.heap.size, 3, none⟩) (v := .int .i64 f.2.1) (by simp [go_sem])
        have c4 := cell_later hb (a := ⟨w.heap.size, 4, none⟩) (v := .slice pa f.2.2.1.length pc) (by simp [go_sem])
        have c5 := cell_later hb (a := ⟨w.heap.size, 5, none⟩) (v := .slice ta f.2.2.2.length tc) (by simp [go_sem])
        have c6 := cell_later hb (a := ⟨w.heap.size, 6, none⟩) (v := .bool true) (by simp [go_sem])
        have c7 := cell_later hb (a := ⟨w.heap.size, 7, none⟩) (v := .string g.1) (by simp [go_sem])
        have c8 := cell_later hb (a := ⟨w.heap.size, 8, none⟩) (v := .int .i64 g.2.1) (by simp [go_sem])
        have c9 := cell_later hb (a := ⟨w.heap.size, 9, none⟩) (v := .slice qa g.2.2.1.length qc) (by simp [go_sem])
        have c10 := cell_later hb (a := ⟨w.heap.size, 10, none⟩) (v := .slice ua g.2.2.2.length uc) (by simp [go_sem])
        have B1 : Hid (Below w.heap.size w w1) := (A1.out _).trans (hb.mono (by simp))
        clear hb
        by_cases hZ1 : ftEq f zft = true
        · rw [hZ1]
          have HZ1 := Lib.hid hZ1
          clear hZ1
          go_wp2_with fail
          refine (GO.out _ (B1.out)).mono ?_
          rintro e w2 ⟨rfl, hb⟩
          replace c0 := cell_later hb c0
          replace c1 := cell_later hb c1
          replace c2 := cell_later hb c2
          replace c3 := cell_later hb c3
          replace c4 := cell_later hb c4
          replace c5 := cell_later hb c5
          replace c6 := cell_later hb c6
          replace c7 := cell_later hb c7
          replace c8 := cell_later hb c8
          replace c9 := cell_later hb c9
          replace c10 := cell_later hb c10
          have B2 : Hid (Below w.heap.size w w2) := B1.out.trans (hb.mono B1.out.size)
          clear hb
          by_cases hO2 : ftGood g = true
          · rw [hO2]
            have HO2 := Lib.hid hO2
            clear hO2
            by_cases hI2 : g.1 = i
            · rw [decide_eq_true hI2] at e2
              have HI2 : Hid (decide (g.1 = i) = true) := decide_eq_true hI2
              clear hI2
              go_wp2
              go_ret
              exact ⟨by simp [chOk, sideGood, turns, HW.out, HZ1.out, HO2.out, HI2.out], B2.out⟩
            · rw [decide_eq_false hI2] at e2
              have HI2 : Hid (decide (g.1 = i) = false) := decide_eq_false hI2
              clear hI2
              go_wp2
              go_ret
              exact ⟨by simp [chOk, sideGood, turns, HW.out, HZ1.out, HO2.out, HI2.out], B2.out⟩
          · have hO2' : ftGood g = false := by simpa using hO2
            rw [hO2']
            have HO2 := Lib.hid hO2'
            clear hO2 hO2'
            go_wp2
            go_ret
            exact ⟨by simp [chOk, sideGood, turns, HW.out, HZ1.out, HO2.out], B2.out⟩
        · have hZ1' : ftEq f zft = false := by simpa using hZ1
          rw [hZ1']
          have HZ1 := Lib.hid hZ1'
          clear hZ1 hZ1'
          go_wp2
          go_ret
          exact ⟨by simp [chOk, sideGood, turns, HW.out, HZ1.out], B1.out⟩
      · have hW' : wordOk i = false := by simpa using hW
        rw [hW']
        have HW := Lib.hid hW'
        clear hW hW'
        go_wp2
        go_ret
        exact ⟨by simp [chOk, sideGood, turns, HW.out], A1.out _⟩
  · cases s
    · go_enter Tryz.func120, Tryz.ntmps120
      go_wp2_with fail
      refine (specWordOk_any _ _ li).mono ?_
      rintro e w0 ⟨rfl, rfl⟩
      by_cases hW : wordOk i = true
      · rw [hW]
        have HW := Lib.hid hW
        clear hW
        go_wp2_with fail
        refine (GZ.out _ (A1.out _)).mono ?_
        rintro e w1 ⟨rfl, hb⟩
        have c0 := cell_later hb (a := ⟨w.heap.size, 0, none⟩) (v := .string i) (by simp [go_sem])
        have c1 := cell_later hb (a := ⟨w.heap.size, 1, none⟩) (v := .bool true) (by simp [go_sem])
        have c2 := cell_later hb (a := ⟨w.heap.size, 2, none⟩) (v := .string f.1) (by simp [go_sem])
        have c3 := cell_later hb (a := ⟨w.heap.size, 3, none⟩) (v := .int .i64 f.2.1) (by simp [go_sem])
        have c4 := cell_later hb (a := ⟨w.heap.size, 4, none⟩) (v := .slice pa f.2.2.1.length pc) (by simp [go_sem])
        have c5 := cell_later hb (a := ⟨w.heap.size, 5, none⟩) (v := .slice ta f.2.2.2.length tc) (by simp [go_sem])
        have c6 := cell_later hb (a := ⟨w.heap.size, 6, none⟩) (v := .bool false) (by simp [go_sem])
        have c7 := cell_later hb (a := ⟨w.heap.size, 7, none⟩) (v := .string g.1) (by simp [go_sem])
        have c8 := cell_later hb (a := ⟨w.heap.size, 8, none⟩) (v := .int .i64 g.2.1) (by simp [go_sem])
        have c9 := cell_later hb (a := ⟨w.heap.size, 9, none⟩) (v := .slice qa g.2.2.1.length qc) (by simp [go_sem])
        have c10 := cell_later hb (a := ⟨w.heap.size, 10, none⟩) (v := .slice ua g.2.2.2.length uc) (by simp [go_sem])
        have B1 : Hid (Below w.heap.size w w1) := (A1.out _).trans (hb.mono (by simp))
        clear hb
        by_cases hZ2 : ftEq g zft = true
        · rw [hZ2]
          have HZ2 := Lib.hid hZ2
          clear hZ2
          go_wp2_with fail
          refine (FO.out _ (B1.out)).mono ?_
          rintro e w2 ⟨rfl, hb⟩
          replace c0 := cell_later hb c0
          replace c1 := cell_later hb c1
          replace c2 := cell_later hb c2
          replace c3 := cell_later hb c3
          replace c4 := cell_later hb c4
          replace c5 := cell_later hb c5
          replace c6 := cell_later hb c6
          replace c7 := cell_later hb c7
          replace c8 := cell_later hb c8
          replace c9 := cell_later hb c9
          replace c10 := cell_later hb c10
          have B2 : Hid (Below w.heap.size w w2) := B1.out.trans (hb.mono B1.out.size)
          clear hb
          by_cases hO1 : ftGood f = true
          · rw [hO1]
            have HO1 := Lib.hid hO1
            clear hO1
            by_cases hI1 : f.1 = i
            · rw [decide_eq_true hI1] at e1
              have HI1 : Hid (decide (f.1 = i) = true) := decide_eq_true hI1
              clear hI1
              go_wp2
              go_ret
              exact ⟨by simp [chOk, sideGood, turns, HW.out, HZ2.out, HO1.out, HI1.out], B2.out⟩
            · rw [decide_eq_false hI1] at e1
              have HI1 : Hid (decide (f.1 = i) = false) := decide_eq_false hI1
              clear hI1
              go_wp2
              go_ret
              exact ⟨by simp [chOk, sideGood, turns, HW.out, HZ2.out, HO1.out, HI1.out], B2.out⟩
          · have hO1' : ftGood f = false := by simpa using hO1
            rw [hO1']
            have HO1 := Lib.hid hO1'
            clear hO1 hO1'
            go_wp2
            go_ret
            exact ⟨by simp [chOk, sideGood, turns, HW.out, HZ2.out, HO1.out], B2.out⟩
        · have hZ2' : ftEq g zft = false := by simpa using hZ2
          rw [hZ2']
          have HZ2 := Lib.hid hZ2'
          clear hZ2 hZ2'
          go_wp2
          go_ret
          exact ⟨by simp [chOk, sideGood, turns, HW.out, HZ2.out], B1.out⟩
      · have hW' : wordOk i = false := by simpa using hW
        rw [hW']
        have HW := Lib.hid hW'
        clear hW hW'
        go_wp2
        go_ret
        exact ⟨by simp [chOk, sideGood, turns, HW.out], A1.out _⟩
    · go_enter Tryz.func120, Tryz.ntmps120
      go_wp2_with fail
      refine (specWordOk_any _ _ li).mono ?_
      rintro e w0 ⟨rfl, rfl⟩
      by_cases hW : wordOk i = true
      · rw [hW]
        have HW := Lib.hid hW
        clear hW
        go_wp2_with fail
        refine (FG.out _ (A1.out _)).mono ?_
        rintro e w1 ⟨rfl, hb⟩
        have c0 := cell_later hb (a := ⟨w.heap.size, 0, none⟩) (v := .string i) (by simp [go_sem])
        have c1 := cell_later hb (a := ⟨w.heap.size, 1, none⟩) (v := .bool true) (by simp [go_sem])
        have c2 := cell_later hb (a := ⟨w.heap.size, 2, none⟩) (v := .string f.1) (by simp [go_sem])
        have c3 := cell_later hb (a := ⟨w.heap.size, 3, none⟩) (v := .int .i64 f.2.1) (by simp [go_sem])
        have c4 := cell_later hb (a := ⟨w.heap.size, 4, none⟩) (v := .slice pa f.2.2.1.length pc) (by simp [go_sem])
        have c5 := cell_later hb (a := ⟨w.heap.size, 5, none⟩) (v := .slice ta f.2.2.2.length tc) (by simp [go_sem])
        have c6 := cell_later hb (a := ⟨w.heap.size, 6, none⟩) (v := .bool true) (by simp [go_sem])
        have c7 := cell_later hb (a := ⟨w.heap.size, 7, none⟩) (v := .string g.1) (by simp [go_sem])
        have c8 := cell_later hb (a := ⟨w.heap.size, 8, none⟩) (v := .int .i64 g.2.1) (by simp [go_sem])
        have c9 := cell_later hb (a := ⟨w.heap.size, 9, none⟩) (v := .slice qa g.2.2.1.length qc) (by simp [go_sem])
        have c10 := cell_later hb (a := ⟨w.heap.size, 10, none⟩) (v := .slice ua g.2.2.2.length uc) (by simp [go_sem])
        have B1 : Hid (Below w.heap.size w w1) := (A1.out _).trans (hb.mono (by simp))
        clear hb
        by_cases hE : ftEq f g = true
        · rw [hE]
          have HE := Lib.hid hE
          clear hE
          go_wp2
          go_ret
          exact ⟨by simp [chOk, sideGood, turns, HW.out, HE.out], B1.out⟩
        · have hE' : ftEq f g = false := by simpa using hE
          rw [hE']
          have HE := Lib.hid hE'
          clear hE hE'
          go_wp2_with fail
          refine (FO.out _ (B1.out)).mono ?_
          rintro e w2 ⟨rfl, hb⟩
          replace c0 := cell_later hb c0
          replace c1 := cell_later hb c1
          replace c2 := cell_later hb c2
          replace c3 := cell_later hb c3
          replace c4 := cell_later hb c4
          replace c5 := cell_later hb c5
          replace c6 := cell_later hb c6
          replace c7 := cell_later hb c7
          replace c8 := cell_later hb c8
          replace c9 := cell_later hb c9
          replace c10 := cell_later hb c10
          have B2 : Hid (Below w.heap.size w w2) := B1.out.trans (hb.mono B1.out.size)
          clear hb
          by_cases hO1 : ftGood f = true
          · rw [hO1]
            have HO1 := Lib.hid hO1
            clear hO1
            by_cases hI1 : f.1 = i
            · rw [decide_eq_true hI1] at e1
              have HI1 : Hid (decide (f.1 = i) = true) := decide_eq_true hI1
              clear hI1
              go_wp2_with fail
              refine (GO.out _ (B2.out)).mono ?_
              rintro e w3 ⟨rfl, hb⟩
              replace c0 := cell_later hb c0
              replace c1 := cell_later hb c1
              replace c2 := cell_later hb c2
              replace c3 := cell_later hb c3
              replace c4 := cell_later hb c4
              replace c5 := cell_later hb c5
              replace c6 := cell_later hb c6
              replace c7 := cell_later hb c7
              replace c8 := cell_later hb c8
              replace c9 := cell_later hb c9
              replace c10 := cell_later hb c10
              have B3 : Hid (Below w.heap.size w w3) := B2.out.trans (hb.mono B2.out.size)
              clear hb
              by_cases hO2 : ftGood g = true
              · rw [hO2]
                have HO2 := Lib.hid hO2
                clear hO2
                by_cases hI2 : g.1 = i
                · rw [decide_eq_true hI2] at e2
                  have HI2 : Hid (decide (g.1 = i) = true) := decide_eq_true hI2
                  clear hI2
                  go_wp2
                  go_ret
                  exact ⟨by simp [chOk, sideGood, turns, HW.out, HE.out, HO1.out, HI1.out, HO2.out, HI2.out], B3.out⟩
                · rw [decide_eq_false hI2] at e2
                  have HI2 : Hid (decide (g.1 = i) = false) := decide_eq_false hI2
                  clear hI2
                  go_wp2
                  go_ret
                  exact ⟨by simp [chOk, sideGood, turns, HW.out, HE.out, HO1.out, HI1.out, HO2.out, HI2.out], B3.out⟩
              · have hO2' : ftGood g = false := by simpa using hO2
                rw [hO2']
                have HO2 := Lib.hid hO2'
                clear hO2 hO2'
                go_wp2
                go_ret
                exact ⟨by simp [chOk, sideGood, turns, HW.out, HE.out, HO1.out, HI1.out, HO2.out], B3.out⟩
            · rw [decide_eq_false hI1] at e1
              have HI1 : Hid (decide (f.1 = i) = false) := decide_eq_false hI1
              clear hI1
              go_wp2
              go_ret
              exact ⟨by simp [chOk, sideGood, turns, HW.out, HE.out, HO1.out, HI1.out], B2.out⟩
          · have hO1' : ftGood f = false := by simpa using hO1
            rw [hO1']
            have HO1 := Lib.hid hO1'
            clear hO1 hO1'
            go_wp2
            go_ret
            exact ⟨by simp [chOk, sideGood, turns, HW.out, HE.out, HO1.out], B2.out⟩
      · have hW' : wordOk i = false := by simpa using hW
        rw [hW']
        have HW := Lib.hid hW'
        clear hW hW'
        go_wp2
        go_ret
        exact ⟨by simp [chOk, sideGood, turns, HW.out], A1.out _⟩
end Go.Proofs.YtccgbengfmlgbaaGreat

namespace Go.Proofs.YtccgbengfmlgbaaGreat
set_option linter.unusedVariables false
open Go.ChangeShapes Go.WideShapes Go.ChangeAt Go.RowKit

/-- the bytes of a change's name, by its place -/
def cb (ds : List Ch) (i : Nat) : List UInt8 := (cid ds i).data.toList
/-- a change of a list is right -/
def chOkAt (ds : List Ch) (i : Nat) : Bool := chOk (cid ds i) (chd ds i) (cwf ds i) (chs ds i) (cnf ds i)
/-- a change is right, and its name behind the one ahead of it -/
def chGood (ds : List Ch) (i : Nat) : Bool := chOkAt ds i && !(decide (0 < i) && decide (cb ds i ≤ cb ds (i - 1)))
def chsGood (ds : List Ch) : Bool := (List.range ds.length).all (chGood ds)
/-- changes are right -/
def diffOk (ds : List Ch) : Bool := chsGood ds && decide (ds.length ≤ 16)

theorem chsGood_of {ds : List Ch} (h : ∀ j, j < ds.length → chGood ds j = true) : chsGood ds = true := by
  unfold chsGood
  rw [List.all_eq_true]
  intro j hj
  exact h j (by simpa using hj)

theorem chsGood_not {ds : List Ch} {j : Nat} (hj : j < ds.length) (h : chGood ds j = false) : chsGood ds = false := by
  unfold chsGood
  rw [List.all_eq_false]
  exact ⟨j, by simpa using hj, by simp [h]⟩

theorem chsGood_at {ds : List Ch} (h : chsGood ds = true) {j : Nat} (hj : j < ds.length) : chGood ds j = true := by
  unfold chsGood at h
  rw [List.all_eq_true] at h
  exact h j (by simpa using hj)

theorem diffOk_not {ds : List Ch} {j : Nat} (hj : j < ds.length) (h : chGood ds j = false) : diffOk ds = false := by
  unfold diffOk
  rw [chsGood_not hj h]
  rfl

set_option maxRecDepth 100000 in
set_option maxHeartbeats 8000000 in
theorem specDiffOk_any (a : Option Addr) (cap : Nat) (ds : List Ch) (w : World) (hp : ChangesAt w a ds) (hl : ds.length ≤ 1048576) (ht : ChLen ds 1048576) :
    Calls Tryz.prog 69 #[.slice a ds.length cap] w fun e w' => e = .returned (.bool (diffOk ds)) ∧ Below w.heap.size w w' := by
  have HP := Lib.hid hp
  have HL := Lib.hid ht
  clear hp ht
  go_enter Tryz.func69, Tryz.ntmps69
  go_wp2
  go_loopw [3] (fun i wr => ∃ k : Nat, k ≤ ds.length ∧ i = .int .i64 k ∧ Below w.heap.size w wr ∧ ∀ j, j < k → chGood ds j = true) (fun i _ => ds.length - (intOf i).toNat)
  case atStart => exact ⟨0, Nat.zero_le _, rfl, Below.refl _ _, fun j h => absurd h (Nat.not_lt_zero _)⟩
  case round =>
    obtain ⟨k, hk, rfl, hbel, hall⟩ := hrel
    have HA := Lib.hid hall
    have HB := Lib.hid hbel
    have hsz := hbel.size
    clear hall
    by_cases hlt : k < ds.length
    · obtain ⟨b, off, pa, pc, ta, tc, qa, qc, ua, uc, rfl, hx⟩ := HP.out k hlt
      obtain ⟨hb, c0, c1, c2, c3, c4, c5, c6, c7, c8, c9, c10, hpp, htt, hqq, huu⟩ := hx.below hbel
      have hb0 := hx.lt
      clear hx
      obtain ⟨l1, l2, l3⟩ := HL.out k hlt
      have D1 := Lib.hid hpp
      have D2 := Lib.hid htt
      have D3 := Lib.hid hqq
      have D4 := Lib.hid huu
      have L2 := Lib.hid l2
      have L3 := Lib.hid l3
      clear hbel hpp htt hqq huu l2 l3
      have B0 : Hid (∀ u, Below wr.heap.size wr u → Calls Tryz.prog 120 #[.agg #[.string (cid ds k), .bool (chd ds k), .string (cwf ds k).1, .int .i64 (cwf ds k).2.1, .slice pa (cwf ds k).2.2.1.length pc, .slice ta (cwf ds k).2.2.2.length tc, .bool (chs ds k), .string (cnf ds k).1, .int .i64 (cnf ds k).2.1, .slice qa (cnf ds k).2.2.1.length qc, .slice ua (cnf ds k).2.2.2.length uc]] u fun e w' => e = .returned (.bool (chOkAt ds k)) ∧ Below u.heap.size u w') := fun u hu =>
        l4One_any _ _ _ _ _ _ _ _ _ _ _ _ _ _ (D1.out.below hu) (D2.out.below hu) (D3.out.below hu) (D4.out.below hu) (by omega) L2.out L3.out
      clear D1 D2 D3 D4 L2 L3
      by_cases hx : chOkAt ds k = true
      · by_cases h0 : k = 0
        · subst h0
          simp only [Nat.zero_mul, Nat.add_zero] at c0 c1 c2 c3 c4 c5 c6 c7 c8 c9 c10
          have HS : Hid (chGood ds 0 = true) := by simp [Hid, chGood, hx]
          have HC := B0
          rw [hx] at HC
          clear B0 hx
          have q0 : ∀ x : Kept wr, x.1.cell? ⟨b, off, none⟩ = some (.string (cid ds 0)) := fun x => x.cell c0
          have q1 : ∀ x : Kept wr, x.1.cell? ⟨b, off + 1, none⟩ = some (.bool (chd ds 0)) := fun x => x.cell c1
          have q2 : ∀ x : Kept wr, x.1.cell? ⟨b, off + 2, none⟩ = some (.string (cwf ds 0).1) := fun x => x.cell c2
          have q3 : ∀ x : Kept wr, x.1.cell? ⟨b, off + 3, none⟩ = some (.int .i64 (cwf ds 0).2.1) := fun x => x.cell c3
          have q4 : ∀ x : Kept wr, x.1.cell? ⟨b, off + 4, none⟩ = some (.slice pa (cwf ds 0).2.2.1.length pc) := fun x => x.cell c4
          have q5 : ∀ x : Kept wr, x.1.cell? ⟨b, off + 5, none⟩ = some (.slice ta (cwf ds 0).2.2.2.length tc) := fun x => x.cell c5
          have q6 : ∀ x : Kept wr, x.1.cell? ⟨b, off + 6, none⟩ = some (.bool (chs ds 0)) := fun x => x.cell c6
          have q7 : ∀ x : Kept wr, x.1.cell? ⟨b, off + 7, none⟩ = some (.string (cnf ds 0).1) := fun x => x.cell c7
          have q8 : ∀ x : Kept wr, x.1.cell? ⟨b, off + 8, none⟩ = some (.int .i64 (cnf ds 0).2.1) := fun x => x.cell c8
          have q9 : ∀ x : Kept wr, x.1.cell? ⟨b, off + 9, none⟩ = some (.slice qa (cnf ds 0).2.2.1.length qc) := fun x => x.cell c9
          have q10 : ∀ x : Kept wr, x.1.cell? ⟨b, off + 10, none⟩ = some (.slice ua (cnf ds 0).2.2.2.length uc) := fun x => x.cell c10
          clear c0 c1 c2 c3 c4 c5 c6 c7 c8 c9 c10
          go_wp2
          refine wp_region_kept (by kernel_rfl) (by kernel_rfl) ?_
          repeat (go_big_quiet_step (exact Kept.calls _ (HC.out _ (Subtype.property _))))
          refine wpQuiet_nil ?_
          rintro wn ⟨x, e⟩
          have hbn : Below wr.heap.size wr wn := by rw [e]; exact x.2
          clear e x
          have B : Hid (Below w.heap.size w wn) := HB.out.trans (hbn.mono hsz)
          clear hbn q0 q1 q2 q3 q4 q5 q6 q7 q8 q9 q10
          go_wp2
          go_roundw
          case rel => exact ⟨1, by omega, by go_num, B.out, fun i hi => by obtain rfl : i = 0 := (by omega); exact HS.out⟩
          case measure => simp [intOf]; omega
        · obtain ⟨b', off', _, _, _, _, _, _, _, _, he, hy⟩ := HP.out (k - 1) (by omega)
          obtain ⟨rfl, rfl⟩ : b = b' ∧ off = off' := by simpa using he
          clear he
          have d0 := (hy.below HB.out).c0
          clear hy
          obtain ⟨j, rfl⟩ : ∃ j, k = j + 1 := ⟨k - 1, by omega⟩
          simp only [Nat.add_sub_cancel] at d0
          have hg : decide ((0 : Int) < ((j + 1 : Nat) : Int)) = true := by simp
          have hw1 : IntKind.i64.wrap (((j + 1 : Nat) : Int) - 1) = (j : Int) := by rw [IntWalk.i64_in _ (by omega)]; omega
          have HC := B0
          rw [hx] at HC
          clear B0
          by_cases hq : cb ds (j + 1) < cb ds j
          · have HS : Hid (chGood ds (j + 1) = false) := by
              have : cb ds (j + 1) ≤ cb ds j := List.le_of_lt hq
              simp [Hid, chGood, this]
            have e1 := less_of hq
            have e3 := less_not (List.lt_asymm hq)
            clear hq hx
            have q0 : ∀ x : Kept wr, x.1.cell? ⟨b, off + (j + 1) * 11, none⟩ = some (.string (cid ds (j + 1))) := fun x => x.cell c0
            have q1 : ∀ x : Kept wr, x.1.cell? ⟨b, off + (j + 1) * 11 + 1, none⟩ = some (.bool (chd ds (j + 1))) := fun x => x.cell c1
            have q2 : ∀ x : Kept wr, x.1.cell? ⟨b, off + (j + 1) * 11 + 2, none⟩ = some (.string (cwf ds (j + 1)).1) := fun x => x.cell c2
            have q3 : ∀ x : Kept wr, x.1.cell? ⟨b, off + (j + 1) * 11 + 3, none⟩ = some (.int .i64 (cwf ds (j + 1)).2.1) := fun x => x.cell c3
            have q4 : ∀ x : Kept wr, x.1.cell? ⟨b, off + (j + 1) * 11 + 4, none⟩ = some (.slice pa (cwf ds (j + 1)).2.2.1.length pc) := fun x => x.cell c4
            have q5 : ∀ x : Kept wr, x.1.cell? ⟨b, off + (j + 1) * 11 + 5, none⟩ = some (.slice ta (cwf ds (j + 1)).2.2.2.length tc) := fun x => x.cell c5
            have q6 : ∀ x : Kept wr, x.1.cell? ⟨b, off + (j + 1) * 11 + 6, none⟩ = some (.bool (chs ds (j + 1))) := fun x => x.cell c6
            have q7 : ∀ x : Kept wr, x.1.cell? ⟨b, off + (j + 1) * 11 + 7, none⟩ = some (.string (cnf ds (j + 1)).1) := fun x => x.cell c7
            have q8 : ∀ x : Kept wr, x.1.cell? ⟨b, off + (j + 1) * 11 + 8, none⟩ = some (.int .i64 (cnf ds (j + 1)).2.1) := fun x => x.cell c8
            have q9 : ∀ x : Kept wr, x.1.cell? ⟨b, off + (j + 1) * 11 + 9, none⟩ = some (.slice qa (cnf ds (j + 1)).2.2.1.length qc) := fun x => x.cell c9
            have q10 : ∀ x : Kept wr, x.1.cell? ⟨b, off + (j + 1) * 11 + 10, none⟩ = some (.slice ua (cnf ds (j + 1)).2.2.2.length uc) := fun x => x.cell c10
            have q11 : ∀ x : Kept wr, x.1.cell? ⟨b, off + j * 11, none⟩ = some (.string (cid ds j)) := fun x => x.cell d0
            clear d0
            clear c0 c1 c2 c3 c4 c5 c6 c7 c8 c9 c10
            go_wp2
            refine wp_region_kept (by kernel_rfl) (by kernel_rfl) ?_
            repeat (go_big_quiet_step (exact Kept.calls _ (HC.out _ (Subtype.property _))))
            refine wpQuiet_nil ?_
            rintro wn ⟨x, e⟩
            have hbn : Below wr.heap.size wr wn := by rw [e]; exact x.2
            clear e x
            have B : Hid (Below w.heap.size w wn) := HB.out.trans (hbn.mono hsz)
            clear hbn q0 q1 q2 q3 q4 q5 q6 q7 q8 q9 q10 q11
            go_wp2
            go_ret
            exact ⟨by rw [diffOk_not hlt HS.out]; rfl, B.out⟩
          · have e1 := less_not hq
            by_cases hr : cb ds (j + 1) = cb ds j
            · have HS : Hid (chGood ds (j + 1) = false) := by
                have : cb ds (j + 1) ≤ cb ds j := by rw [hr]; exact List.le_refl _
                simp [Hid, chGood, this]
              have e2 := beq_of hr
              have e4 := beq_of hr.symm
              have e3 := less_not (x := cid ds j) (y := cid ds (j + 1)) (fun h => hq (by have h2 := h; unfold cb at hr; rw [hr] at h2; exact absurd h2 (List.lt_irrefl _)))
              clear hq hr hx
              have q0 : ∀ x : Kept wr, x.1.cell? ⟨b, off + (j + 1) * 11, none⟩ = some (.string (cid ds (j + 1))) := fun x => x.cell c0
              have q1 : ∀ x : Kept wr, x.1.cell? ⟨b, off + (j + 1) * 11 + 1, none⟩ = some (.bool (chd ds (j + 1))) := fun x => x.cell c1
              have q2 : ∀ x : Kept wr, x.1.cell? ⟨b, off + (j + 1) * 11 + 2, none⟩ = some (.string (cwf ds (j + 1)).1) := fun x => x.cell c2
              have q3 : ∀ x : Kept wr, x.1.cell? ⟨b, off + (j + 1) * 11 + 3, none⟩ = some (.int .i64 (cwf ds (j + 1)).2.1) := fun x => x.cell c3
              have q4 : ∀ x : Kept wr, x.1.cell? ⟨b, off + (j + 1) * 11 + 4, none⟩ = some (.slice pa (cwf ds (j + 1)).2.2.1.length pc) := fun x => x.cell c4
              have q5 : ∀ x : Kept wr, x.1.cell? ⟨b, off + (j + 1) * 11 + 5, none⟩ = some (.slice ta (cwf ds (j + 1)).2.2.2.length tc) := fun x => x.cell c5
              have q6 : ∀ x : Kept wr, x.1.cell? ⟨b, off + (j + 1) * 11 + 6, none⟩ = some (.bool (chs ds (j + 1))) := fun x => x.cell c6
              have q7 : ∀ x : Kept wr, x.1.cell? ⟨b, off + (j + 1) * 11 + 7, none⟩ = some (.string (cnf ds (j + 1)).1) := fun x => x.cell c7
              have q8 : ∀ x : Kept wr, x.1.cell? ⟨b, off + (j + 1) * 11 + 8, none⟩ = some (.int .i64 (cnf ds (j + 1)).2.1) := fun x => x.cell c8
              have q9 : ∀ x : Kept wr, x.1.cell? ⟨b, off + (j + 1) * 11 + 9, none⟩ = some (.slice qa (cnf ds (j + 1)).2.2.1.length qc) := fun x => x.cell c9
              have q10 : ∀ x : Kept wr, x.1.cell? ⟨b, off + (j + 1) * 11 + 10, none⟩ = some (.slice ua (cnf ds (j + 1)).2.2.2.length uc) := fun x => x.cell c10
              have q11 : ∀ x : Kept wr, x.1.cell? ⟨b, off + j * 11, none⟩ = some (.string (cid ds j)) := fun x => x.cell d0
              clear d0
              clear c0 c1 c2 c3 c4 c5 c6 c7 c8 c9 c10
              go_wp2
              refine wp_region_kept (by kernel_rfl) (by kernel_rfl) ?_
              repeat (go_big_quiet_step (exact Kept.calls _ (HC.out _ (Subtype.property _))))
              refine wpQuiet_nil ?_
              rintro wn ⟨x, e⟩
              have hbn : Below wr.heap.size wr wn := by rw [e]; exact x.2
              clear e x
              have B : Hid (Below w.heap.size w wn) := HB.out.trans (hbn.mono hsz)
              clear hbn q0 q1 q2 q3 q4 q5 q6 q7 q8 q9 q10 q11
              go_wp2
              go_ret
              exact ⟨by rw [diffOk_not hlt HS.out]; rfl, B.out⟩
            · have HS : Hid (chGood ds (j + 1) = true) := by
                have : ¬ cb ds (j + 1) ≤ cb ds j := fun h => hq (lt_of_le_ne h (fun e => hr e.symm))
                simp [Hid, chGood, hx, this]
              have e2 := beq_not hr
              have e4 := beq_not (fun e => hr e.symm)
              have e3 : Op.bytesLess (cid ds j).toList (cid ds (j + 1)).toList = true := less_of (lt_of_le_ne hq hr)
              clear hq hr hx
              have q0 : ∀ x : Kept wr, x.1.cell? ⟨b, off + (j + 1) * 11, none⟩ = some (.string (cid ds (j + 1))) := fun x => x.cell c0
              have q1 : ∀ x : Kept wr, x.1.cell? ⟨b, off + (j + 1) * 11 + 1, none⟩ = some (.bool (chd ds (j + 1))) := fun x => x.cell c1
              have q2 : ∀ x : Kept wr, x.1.cell? ⟨b, off + (j + 1) * 11 + 2, none⟩ = some (.string (cwf ds (j + 1)).1) := fun x => x.cell c2
              have q3 : ∀ x : Kept wr, x.1.cell? ⟨b, off + (j + 1) * 11 + 3, none⟩ = some (.int .i64 (cwf ds (j + 1)).2.1) := fun x => x.cell c3
              have q4 : ∀ x : Kept wr, x.1.cell? ⟨b, off + (j + 1) * 11 + 4, none⟩ = some (.slice pa (cwf ds (j + 1)).2.2.1.length pc) := fun x => x.cell c4
              have q5 : ∀ x : Kept wr, x.1.cell? ⟨b, off + (j + 1) * 11 + 5, none⟩ = some (.slice ta (cwf ds (j + 1)).2.2.2.length tc) := fun x => x.cell c5
              have q6 : ∀ x : Kept wr, x.1.cell? ⟨b, off + (j + 1) * 11 + 6, none⟩ = some (.bool (chs ds (j + 1))) := fun x => x.cell c6
              have q7 : ∀ x : Kept wr, x.1.cell? ⟨b, off + (j + 1) * 11 + 7, none⟩ = some (.string (cnf ds (j + 1)).1) := fun x => x.cell c7
              have q8 : ∀ x : Kept wr, x.1.cell? ⟨b, off + (j + 1) * 11 + 8, none⟩ = some (.int .i64 (cnf ds (j + 1)).2.1) := fun x => x.cell c8
              have q9 : ∀ x : Kept wr, x.1.cell? ⟨b, off + (j + 1) * 11 + 9, none⟩ = some (.slice qa (cnf ds (j + 1)).2.2.1.length qc) := fun x => x.cell c9
              have q10 : ∀ x : Kept wr, x.1.cell? ⟨b, off + (j + 1) * 11 + 10, none⟩ = some (.slice ua (cnf ds (j + 1)).2.2.2.length uc) := fun x => x.cell c10
              have q11 : ∀ x : Kept wr, x.1.cell? ⟨b, off + j * 11, none⟩ = some (.string (cid ds j)) := fun x => x.cell d0
              clear d0
              clear c0 c1 c2 c3 c4 c5 c6 c7 c8 c9 c10
              go_wp2
              refine wp_region_kept (by kernel_rfl) (by kernel_rfl) ?_
              repeat (go_big_quiet_step (exact Kept.calls _ (HC.out _ (Subtype.property _))))
              refine wpQuiet_nil ?_
              rintro wn ⟨x, e⟩
              have hbn : Below wr.heap.size wr wn := by rw [e]; exact x.2
              clear e x
              have B : Hid (Below w.heap.size w wn) := HB.out.trans (hbn.mono hsz)
              clear hbn q0 q1 q2 q3 q4 q5 q6 q7 q8 q9 q10 q11
              go_wp2
              go_roundw
              case rel => exact ⟨j + 1 + 1, by omega, by go_num, B.out, fun i hi => by by_cases e : i = j + 1; (subst e; exact HS.out); exact HA.out i (by omega)⟩
              case measure => simp [intOf]; omega
      · have hx' : chOkAt ds k = false := by simpa using hx
        have HS : Hid (chGood ds k = false) := by simp [Hid, chGood, hx']
        have HC := B0
        rw [hx'] at HC
        clear B0 hx hx'
        have q0 : ∀ x : Kept wr, x.1.cell? ⟨b, off + k * 11, none⟩ = some (.string (cid ds k)) := fun x => x.cell c0
        have q1 : ∀ x : Kept wr, x.1.cell? ⟨b, off + k * 11 + 1, none⟩ = some (.bool (chd ds k)) := fun x => x.cell c1
        have q2 : ∀ x : Kept wr, x.1.cell? ⟨b, off + k * 11 + 2, none⟩ = some (.string (cwf ds k).1) := fun x => x.cell c2
        have q3 : ∀ x : Kept wr, x.1.cell? ⟨b, off + k * 11 + 3, none⟩ = some (.int .i64 (cwf ds k).2.1) := fun x => x.cell c3
        have q4 : ∀ x : Kept wr, x.1.cell? ⟨b, off + k * 11 + 4, none⟩ = some (.slice pa (cwf ds k).2.2.1.length pc) := fun x => x.cell c4
        have q5 : ∀ x : Kept wr, x.1.cell? ⟨b, off + k * 11 + 5, none⟩ = some (.slice ta (cwf ds k).2.2.2.length tc) := fun x => x.cell c5
        have q6 : ∀ x : Kept wr, x.1.cell? ⟨b, off + k * 11 + 6, none⟩ = some (.bool (chs ds k)) := fun x => x.cell c6
        have q7 : ∀ x : Kept wr, x.1.cell? ⟨b, off + k * 11 + 7, none⟩ = some (.string (cnf ds k).1) := fun x => x.cell c7
        have q8 : ∀ x : Kept wr, x.1.cell? ⟨b, off + k * 11 + 8, none⟩ = some (.int .i64 (cnf ds k).2.1) := fun x => x.cell c8
        have q9 : ∀ x : Kept wr, x.1.cell? ⟨b, off + k * 11 + 9, none⟩ = some (.slice qa (cnf ds k).2.2.1.length qc) := fun x => x.cell c9
        have q10 : ∀ x : Kept wr, x.1.cell? ⟨b, off + k * 11 + 10, none⟩ = some (.slice ua (cnf ds k).2.2.2.length uc) := fun x => x.cell c10
        clear c0 c1 c2 c3 c4 c5 c6 c7 c8 c9 c10
        go_wp2
        refine wp_region_kept (by kernel_rfl) (by kernel_rfl) ?_
        repeat (go_big_quiet_step (exact Kept.calls _ (HC.out _ (Subtype.property _))))
        refine wpQuiet_nil ?_
        rintro wn ⟨x, e⟩
        have hbn : Below wr.heap.size wr wn := by rw [e]; exact x.2
        clear e x
        have B : Hid (Below w.heap.size w wn) := HB.out.trans (hbn.mono hsz)
        clear hbn q0 q1 q2 q3 q4 q5 q6 q7 q8 q9 q10
        go_wp2
        go_ret
        exact ⟨by rw [diffOk_not hlt HS.out]; rfl, B.out⟩
    · obtain rfl : k = ds.length := by omega
      have HT := Lib.hid (chsGood_of HA.out)
      clear hbel
      go_wp2
      go_ret
      exact ⟨by unfold diffOk; rw [HT.out]; simp; omega, HB.out⟩
    
end Go.Proofs.YtccgbengfmlgbaaGreat
