/- Proved here: a list of things whose parts lie apart is marked thing by thing, each part with marks of its own, and nothing else is turned; lists of at most 1,048,576 things, points and tags. -/
import Derived.Test.YtdfadpejddhbkaaGreatWMarkFeat
import Derived.Test.YtdfadpejddhbkaaGreatWPutRow
import Derived.Test.YtdfadpejddhbkaaGreatWSheet
import Derived.Test.YtdfadpejddhbkaaGreatWBack
namespace Go.Proofs.YtdfadpejddhbkaaGreat
set_option linter.unusedVariables false
open Go.ChangeShapes Go.WideShapes Go.ChangeAt Go.RowKit

theorem Soft.turnedP {w w' : World} {a : Option Addr} {ps : List (Int × Int)} {S : Nat → Prop} (h : Soft w a ps.length) (hp : PtsAt w a ps) (ht : Turned w w' S) (hn : ∀ x, blk a = some x → ¬ S x) : Soft w' a ps.length := by
  intro i hi b off e
  obtain ⟨b', off', e', hlt, _⟩ := hp i hi
  obtain ⟨rfl, rfl⟩ : b = b' ∧ off = off' := by rw [e] at e'; simpa using e'
  have := h i hi b off e
  rw [ht.frozen (a := ⟨b, _, none⟩) hlt (hn b (by rw [e]; rfl)), ht.frozen (a := ⟨b, _, none⟩) hlt (hn b (by rw [e]; rfl))]
  exact this
theorem Soft.turnedT {w w' : World} {a : Option Addr} {ts : List Tg} {S : Nat → Prop} (h : Soft w a ts.length) (hp : TagsAt w a ts) (ht : Turned w w' S) (hn : ∀ x, blk a = some x → ¬ S x) : Soft w' a ts.length := by
  intro i hi b off e
  obtain ⟨b', off', e', hlt, _⟩ := hp i hi
  obtain ⟨rfl, rfl⟩ : b = b' ∧ off = off' := by rw [e] at e'; simpa using e'
  have := h i hi b off e
  rw [ht.frozen (a := ⟨b, _, none⟩) hlt (hn b (by rw [e]; rfl)), ht.frozen (a := ⟨b, _, none⟩) hlt (hn b (by rw [e]; rfl))]
  exact this

/-- things that lie in memory of their own -/
structure Lies (w : World) (b off : Nat) (fs : List Ft) (ad : Nat → Pl) : Prop where
  cell : ∀ i, i < fs.length → w.cell? ⟨b, off + i * 4, none⟩ = some (.string (fid fs i)) ∧ w.cell? ⟨b, off + i * 4 + 1, none⟩ = some (.int .i64 (fkd fs i)) ∧
    w.cell? ⟨b, off + i * 4 + 2, none⟩ = some (.slice (ad i).1.1 (fps fs i).length (ad i).1.2) ∧ w.cell? ⟨b, off + i * 4 + 3, none⟩ = some (.slice (ad i).2.1 (fts fs i).length (ad i).2.2)
  soft : ∀ i, i < fs.length → w.frozen? ⟨b, off + i * 4, none⟩ = false ∧ w.frozen? ⟨b, off + i * 4 + 1, none⟩ = false
  pts : ∀ i, i < fs.length → PtsAt w (ad i).1.1 (fps fs i) ∧ Soft w (ad i).1.1 (fps fs i).length
  tags : ∀ i, i < fs.length → TagsAt w (ad i).2.1 (fts fs i) ∧ Soft w (ad i).2.1 (fts fs i).length
  lt : b < w.heap.size

/-- the parts lie apart -/
structure Sep (b n : Nat) (ad : Nat → Pl) : Prop where
  own : ∀ i, i < n → blk (ad i).1.1 ≠ some b ∧ blk (ad i).2.1 ≠ some b
  two : ∀ i, i < n → Apart (ad i).1.1 (ad i).2.1
  far : ∀ i j, i < n → j < n → i ≠ j → Apart (ad i).1.1 (ad j).1.1 ∧ Apart (ad i).1.1 (ad j).2.1 ∧ Apart (ad i).2.1 (ad j).1.1 ∧ Apart (ad i).2.1 (ad j).2.1

/-- the blocks of a list -/
def blocksOf (b n : Nat) (ad : Nat → Pl) (x : Nat) : Prop := x = b ∨ ∃ i, i < n ∧ (blk (ad i).1.1 = some x ∨ blk (ad i).2.1 = some x)

theorem Lies.reads {w : World} {b off : Nat} {fs : List Ft} {ad : Nat → Pl} (h : Lies w b off fs ad) : FeatsAt w (some ⟨b, off, none⟩) fs := fun i hi =>
  ⟨b, off, _, _, _, _, rfl, h.lt, (h.cell i hi).1, (h.cell i hi).2.1, (h.cell i hi).2.2.1, (h.cell i hi).2.2.2, (h.pts i hi).1, (h.tags i hi).1⟩

theorem Lies.turned {w w' : World} {b off : Nat} {fs : List Ft} {ad : Nat → Pl} {S : Nat → Prop} (h : Lies w b off fs ad) (ht : Turned w w' S) (hn : ∀ x, blocksOf b fs.length ad x → ¬ S x) : Lies w' b off fs ad :=
  ⟨fun i hi => ⟨ht.cell (h.cell i hi).1 (hn _ (.inl rfl)), ht.cell (h.cell i hi).2.1 (hn _ (.inl rfl)), ht.cell (h.cell i hi).2.2.1 (hn _ (.inl rfl)), ht.cell (h.cell i hi).2.2.2 (hn _ (.inl rfl))⟩,
   fun i hi => ⟨(ht.frozen (a := ⟨b, _, none⟩) h.lt (hn _ (.inl rfl))).trans (h.soft i hi).1, (ht.frozen (a := ⟨b, _, none⟩) h.lt (hn _ (.inl rfl))).trans (h.soft i hi).2⟩,
   fun i hi => ⟨(h.pts i hi).1.turned ht fun x hx => hn x (.inr ⟨i, hi, .inl hx⟩), (h.pts i hi).2.turnedP (h.pts i hi).1 ht fun x hx => hn x (.inr ⟨i, hi, .inl hx⟩)⟩,
   fun i hi => ⟨(h.tags i hi).1.turned ht fun x hx => hn x (.inr ⟨i, hi, .inr hx⟩), (h.tags i hi).2.turnedT (h.tags i hi).1 ht fun x hx => hn x (.inr ⟨i, hi, .inr hx⟩)⟩,
   Nat.lt_of_lt_of_le h.lt ht.size⟩

theorem Lies.below {w w' : World} {b off : Nat} {fs : List Ft} {ad : Nat → Pl} (h : Lies w b off fs ad) (hb : Below w.heap.size w w') : Lies w' b off fs ad :=
  h.turned (S := fun _ => False) (Turned.of_below hb) fun _ _ h => h

/-- the number of the first mark of a thing -/
def lmk (fs : List Ft) (k : Int) : Nat → Int
  | 0 => k
  | i + 1 => lmk fs k i + 2 + 2 * ((fps fs i).length : Int) + 2 * ((fts fs i).length : Int)
/-- a thing's marks -/
def lmkF (fs : List Ft) (k : Int) (i : Nat) : Ft := (markT (lmk fs k i), lmk fs k i + 1, marks (lmk fs k i + 2) (fps fs i).length, marksT (lmk fs k i + 2 + 2 * ((fps fs i).length : Int)) (fts fs i).length)
/-- the things, the first ones marked -/
def lmkTo (fs : List Ft) (k : Int) (j : Nat) : List Ft := (List.range fs.length).map fun i => if i < j then lmkF fs k i else fg fs i

theorem lmkTo_len (fs : List Ft) (k : Int) (j : Nat) : (lmkTo fs k j).length = fs.length := by simp [lmkTo]
theorem lmkTo_at {fs : List Ft} (k : Int) (j : Nat) {i : Nat} (h : i < fs.length) : fg (lmkTo fs k j) i = if i < j then lmkF fs k i else fg fs i := by simp [fg, lmkTo, h]
theorem lmkTo_zero (fs : List Ft) (k : Int) : lmkTo fs k 0 = fs := by
  refine List.ext_getElem (lmkTo_len _ _ _) fun i h1 h2 => ?_
  rw [← fg_get h1, ← fg_get h2, lmkTo_at k 0 h2, if_neg (by omega)]
theorem lmkTo_pl {fs : List Ft} (k : Int) (j : Nat) {i : Nat} (h : i < fs.length) : (fps (lmkTo fs k j) i).length = (fps fs i).length ∧ (fts (lmkTo fs k j) i).length = (fts fs i).length := by
  unfold fps fts
  rw [lmkTo_at k j h]
  split
  · exact ⟨marks_len _ _, marksT_len _ _⟩
  · exact ⟨rfl, rfl⟩

theorem lmk_le {fs : List Ft} {k : Int} (h0 : 0 ≤ k) (h4 : k ≤ 1000000000000000) (hL : FeatsLen fs 1048576) : ∀ i, i ≤ fs.length → 0 ≤ lmk fs k i ∧ lmk fs k i ≤ k + i * 4194306
  | 0, _ => ⟨h0, by show k ≤ _; omega⟩
  | i + 1, hi => by
    obtain ⟨h1, h2⟩ := lmk_le h0 h4 hL i (by omega)
    obtain ⟨_, h3, h5, _⟩ := hL i (by omega)
    show 0 ≤ lmk fs k i + 2 + 2 * ((fps fs i).length : Int) + 2 * ((fts fs i).length : Int) ∧ lmk fs k i + 2 + 2 * ((fps fs i).length : Int) + 2 * ((fts fs i).length : Int) ≤ _
    omega

/-- one thing marked -/
theorem Lies.step {w1 w3 w4 w5 : World} {b off : Nat} {fs : List Ft} {ad : Nat → Pl} {k : Int} {j : Nat} (hj : j < fs.length) (h : Lies w1 b off (lmkTo fs k j) ad) (hs : Sep b fs.length ad)
    (h3 : w3 = (w1.setCell ⟨b, off + j * 4, none⟩ (.string (markT (lmk fs k j)))).setCell ⟨b, off + j * 4 + 1, none⟩ (.int .i64 (lmk fs k j + 1)))
    (hp : PtsAt w4 (ad j).1.1 (marks (lmk fs k j + 2) (fps fs j).length)) (hps : Soft w4 (ad j).1.1 (fps fs j).length) (hg : w3.grownBy w4 (blk (ad j).1.1))
    (ht : TagsAt w5 (ad j).2.1 (marksT (lmk fs k j + 2 + 2 * ((fps fs j).length : Int)) (fts fs j).length)) (hts : Soft w5 (ad j).2.1 (fts fs j).length) (hg' : w4.grownBy w5 (blk (ad j).2.1)) :
    Lies w5 b off (lmkTo fs k (j + 1)) ad := by
  have t4 : Turned w3 w4 (fun x => blk (ad j).1.1 = some x) := Turned.of_grown hg fun x hx => hx
  have t5 : Turned w4 w5 (fun x => blk (ad j).2.1 = some x) := Turned.of_grown hg' fun x hx => hx
  have t3 : Turned w1 w3 (fun x => x = b) := by
    rw [h3]
    exact (Turned.of_set (S := fun x => x = b) w1 _ _ rfl).trans (Turned.of_set _ _ _ rfl)
  have nb1 : ¬ (blk (ad j).1.1 = some b) := (hs.own j hj).1
  have nb2 : ¬ (blk (ad j).2.1 = some b) := (hs.own j hj).2
  have hl : (lmkTo fs k j).length = fs.length := lmkTo_len _ _ _
  have lift : ∀ {o : Nat} {v : Value}, w3.cell? ⟨b, o, none⟩ = some v → w5.cell? ⟨b, o, none⟩ = some v := fun hc => t5.cell (t4.cell hc nb1) nb2
  have fz : ∀ o, w5.frozen? ⟨b, o, none⟩ = w1.frozen? ⟨b, o, none⟩ := fun o => by
    have hb3 : b < w3.heap.size := Nat.lt_of_lt_of_le h.lt t3.size
    rw [t5.frozen (a := ⟨b, o, none⟩) (Nat.lt_of_lt_of_le hb3 t4.size) nb2, t4.frozen (a := ⟨b, o, none⟩) hb3 nb1, h3, World.frozen?_setCell, World.frozen?_setCell]
  have at_ : ∀ i, i < fs.length → i ≠ j → fg (lmkTo fs k (j + 1)) i = fg (lmkTo fs k j) i := fun i hi hne => by
    rw [lmkTo_at _ _ hi, lmkTo_at _ _ hi]
    have : (i < j + 1) = (i < j) := by simp; omega
    simp only [this]
  have atj : fg (lmkTo fs k (j + 1)) j = lmkF fs k j := by rw [lmkTo_at _ _ hj, if_pos (by omega)]
  refine ⟨fun i hi => ?_, fun i hi => ?_, fun i hi => ?_, fun i hi => ?_, ?_⟩
  · rw [lmkTo_len] at hi
    obtain ⟨c0, c1, c2, c3⟩ := h.cell i (by rw [hl]; exact hi)
    by_cases e : i = j
    · subst e
      rw [(lmkTo_pl k i hj).1] at c2
      rw [(lmkTo_pl k i hj).2] at c3
      unfold fid fkd fps fts
      rw [atj]
      refine ⟨lift ?_, lift ?_, lift ?_, lift ?_⟩
      · rw [h3, World.cell?_setCell_other _ _ _ _ (by simp)]
        exact World.cell?_setCell_same _ _ _ c0
      · rw [h3]
        exact World.cell?_setCell_same _ _ _ ((World.cell?_setCell_other _ _ _ _ (by simp)).trans c1)
      · rw [h3, World.cell?_setCell_other _ _ _ _ (by simp), World.cell?_setCell_other _ _ _ _ (by simp), c2]
        simp [lmkF, marks_len]
      · rw [h3, World.cell?_setCell_other _ _ _ _ (by simp), World.cell?_setCell_other _ _ _ _ (by simp), c3]
        simp [lmkF, marksT_len]
    · simp only [fid, fkd, fps, fts] at c0 c1 c2 c3 ⊢
      rw [at_ i hi e]
      refine ⟨lift ?_, lift ?_, lift ?_, lift ?_⟩ <;> rw [h3, World.cell?_setCell_other _ _ _ _ (by simp <;> omega), World.cell?_setCell_other _ _ _ _ (by simp <;> omega)] <;> assumption
  · rw [lmkTo_len] at hi
    rw [fz, fz]
    exact h.soft i (by rw [hl]; exact hi)
  · rw [lmkTo_len] at hi
    by_cases e : i = j
    · subst e
      unfold fps
      rw [atj]
      have t : Turned w4 w5 (fun x => blk (ad i).2.1 = some x) := t5
      have n : ∀ x, blk (ad i).1.1 = some x → ¬ (blk (ad i).2.1 = some x) := fun x hx => hs.two i hj x hx
      refine ⟨hp.turned t n, ?_⟩
      show Soft w5 _ (marks _ _).length
      have hps' : Soft w4 (ad i).1.1 (marks (lmk fs k i + 2) (fps fs i).length).length := by rw [marks_len]; exact hps
      exact hps'.turnedP hp t n
    · obtain ⟨q1, q2⟩ := h.pts i (by rw [hl]; exact hi)
      have q3 : ∀ x, blk (ad i).1.1 = some x → ¬ x = b := fun x hx e => (hs.own i hi).1 (e ▸ hx)
      have q4 : ∀ x, blk (ad i).1.1 = some x → ¬ blk (ad j).1.1 = some x := fun x hx => (hs.far i j hi hj e).1 x hx
      have q5 : ∀ x, blk (ad i).1.1 = some x → ¬ blk (ad j).2.1 = some x := fun x hx => (hs.far i j hi hj e).2.1 x hx
      unfold fps at q1 q2 ⊢
      rw [at_ i hi e]
      exact ⟨((q1.turned t3 q3).turned t4 q4).turned t5 q5, ((q2.turnedP q1 t3 q3).turnedP (q1.turned t3 q3) t4 q4).turnedP ((q1.turned t3 q3).turned t4 q4) t5 q5⟩
  · rw [lmkTo_len] at hi
    by_cases e : i = j
    · subst e
      unfold fts
      rw [atj]
      refine ⟨ht, ?_⟩
      show Soft w5 _ (marksT _ _).length
      rw [marksT_len]
      exact hts
    · obtain ⟨q1, q2⟩ := h.tags i (by rw [hl]; exact hi)
      have q3 : ∀ x, blk (ad i).2.1 = some x → ¬ x = b := fun x hx e => (hs.own i hi).2 (e ▸ hx)
      have q4 : ∀ x, blk (ad i).2.1 = some x → ¬ blk (ad j).1.1 = some x := fun x hx => (hs.far i j hi hj e).2.2.1 x hx
      have q5 : ∀ x, blk (ad i).2.1 = some x → ¬ blk (ad j).2.1 = some x := fun x hx => (hs.far i j hi hj e).2.2.2 x hx
      unfold fts at q1 q2 ⊢
      rw [at_ i hi e]
      exact ⟨((q1.turned t3 q3).turned t4 q4).turned t5 q5, ((q2.turnedT q1 t3 q3).turnedT (q1.turned t3 q3) t4 q4).turnedT ((q1.turned t3 q3).turned t4 q4) t5 q5⟩
  · exact Nat.lt_of_lt_of_le h.lt (Nat.le_trans t3.size (Nat.le_trans t4.size t5.size))
end Go.Proofs.YtdfadpejddhbkaaGreat
