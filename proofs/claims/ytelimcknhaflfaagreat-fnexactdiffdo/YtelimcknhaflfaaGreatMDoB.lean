/- Proved here: a list of changes whose parts lie apart, in memory that may be written, is read, turned cell by cell and part by part, and built by appending; no condition. Proved here: the function that marks a list of changes does so change by change, each part with marks of its own, and asking for the marks finds them; lists of at most 1,048,576 changes, points and tags. Proved here: the model's copy of a change lies in memory of its own; at most 1,048,576 points and tags, none without points that has tags. Proved here: a list of changes that is built by appending copies lies in memory made since; and what turns changes back; no condition. Proved here: what a list of things is turned into by changes, told in plain definitions, and that changes of other names leave a name's thing alone; look-ups in a map that tells a list; no condition. Proved here: the model turns a map by changes as the plain definition says, in memory made since; lists of at most 1,048,576 things, changes, points and tags. Proved here: the program turns a map by changes as the plain definition says, in memory of its own; lists of at most 1,048,576 things, changes, points and tags. Proved here: a list of things that toFeatS laid lies in memory of its own, its parts apart; no condition. Proved here: the law FnExactDiffDo answers true at every list of things and of changes, and leaves them as they were; no condition. -/
import Derived.Test.YtelimcknhaflfaaGreatWMarkList
import Derived.Test.YtelimcknhaflfaaGreatWChangeTo
import Derived.Deep.AppendLies
import Derived.Test.YtelimcknhaflfaaGreatWMarkTag
import Derived.Deep.RegionHeld3
import Derived.Deep.DeepCutAuto
import Derived.Test.YtelimcknhaflfaaGreatMDoA
import Derived.Test.YtelimcknhaflfaaGreatWDiffOkS
import Derived.Test.YtelimcknhaflfaaGreatWDiffOkI
import Derived.Test.YtelimcknhaflfaaGreatWSheetArg
import Derived.Test.YtelimcknhaflfaaGreatWQuietB
import Derived.BigQuiet
import Derived.Test.YtelimcknhaflfaaGreatWChangeEq
namespace Go.Proofs.YtelimcknhaflfaaGreat
set_option linter.unusedVariables false
open Go.ChangeShapes Go.WideShapes Go.ChangeAt Go.RowKit Go.Deep

/-- where the four parts of a change lie, and how much room is there -/
abbrev PlC := Nat → Option Addr × Nat

/-- the cells of a change -/
def chv (c : Ch) (p : PlC) : Nat → Value
  | 0 => .string c.1
  | 1 => .bool c.2.1
  | 2 => .string c.2.2.1.1
  | 3 => .int .i64 c.2.2.1.2.1
  | 4 => .slice (p 0).1 c.2.2.1.2.2.1.length (p 0).2
  | 5 => .slice (p 1).1 c.2.2.1.2.2.2.length (p 1).2
  | 6 => .bool c.2.2.2.1
  | 7 => .string c.2.2.2.2.1
  | 8 => .int .i64 c.2.2.2.2.2.1
  | 9 => .slice (p 2).1 c.2.2.2.2.2.2.1.length (p 2).2
  | _ => .slice (p 3).1 c.2.2.2.2.2.2.2.length (p 3).2

/-- a part is there, and may be written -/
def PartC (w : World) (c : Ch) (p : PlC) : Nat → Prop
  | 0 => PtsAt w (p 0).1 c.2.2.1.2.2.1 ∧ Soft w (p 0).1 c.2.2.1.2.2.1.length
  | 1 => TagsAt w (p 1).1 c.2.2.1.2.2.2 ∧ Soft w (p 1).1 c.2.2.1.2.2.2.length
  | 2 => PtsAt w (p 2).1 c.2.2.2.2.2.2.1 ∧ Soft w (p 2).1 c.2.2.2.2.2.2.1.length
  | _ => TagsAt w (p 3).1 c.2.2.2.2.2.2.2 ∧ Soft w (p 3).1 c.2.2.2.2.2.2.2.length

theorem PartC.turned {w w' : World} {c : Ch} {p : PlC} {S : Nat → Prop} (ht : Turned w w' S) : ∀ {r : Nat}, r < 4 → PartC w c p r → (∀ x, blk (p r).1 = some x → ¬ S x) → PartC w' c p r
  | 0, _, h, hn => ⟨h.1.turned ht hn, h.2.turnedP h.1 ht hn⟩
  | 1, _, h, hn => ⟨h.1.turned ht hn, h.2.turnedT h.1 ht hn⟩
  | 2, _, h, hn => ⟨h.1.turned ht hn, h.2.turnedP h.1 ht hn⟩
  | 3, _, h, hn => ⟨h.1.turned ht hn, h.2.turnedT h.1 ht hn⟩

theorem PartC.below {w w' : World} {c : Ch} {p : PlC} (hb : Below w.heap.size w w') {r : Nat} (hr : r < 4) (h : PartC w c p r) : PartC w' c p r :=
  PartC.turned (S := fun _ => False) (Turned.of_below hb) hr h fun _ _ h => h

/-- changes that lie in memory of their own -/
structure LiesC (w : World) (b off : Nat) (ds : List Ch) (ad : Nat → PlC) : Prop where
  cell : ∀ i, i < ds.length → ∀ r, r < 11 → w.cell? ⟨b, off + i * 11 + r, none⟩ = some (chv (cg ds i) (ad i) r)
  soft : ∀ o, w.frozen? ⟨b, o, none⟩ = false
  part : ∀ i, i < ds.length → ∀ r, r < 4 → PartC w (cg ds i) (ad i) r
  lt : b < w.heap.size

/-- the parts lie apart -/
structure SepC (b n : Nat) (ad : Nat → PlC) : Prop where
  own : ∀ i r, i < n → r < 4 → blk (ad i r).1 ≠ some b
  far : ∀ i r j s, i < n → j < n → r < 4 → s < 4 → (i ≠ j ∨ r ≠ s) → Apart (ad i r).1 (ad j s).1

/-- the blocks of a list of changes -/
def blocksC (b n : Nat) (ad : Nat → PlC) (x : Nat) : Prop := x = b ∨ ∃ i r, i < n ∧ r < 4 ∧ blk (ad i r).1 = some x

theorem LiesC.reads {w : World} {b off : Nat} {ds : List Ch} {ad : Nat → PlC} (h : LiesC w b off ds ad) : ChangesAt w (some ⟨b, off, none⟩) ds := fun i hi =>
  ⟨b, off, _, _, _, _, _, _, _, _, rfl, h.lt, h.cell i hi 0 (by omega), h.cell i hi 1 (by omega), h.cell i hi 2 (by omega), h.cell i hi 3 (by omega), h.cell i hi 4 (by omega), h.cell i hi 5 (by omega), h.cell i hi 6 (by omega), h.cell i hi 7 (by omega), h.cell i hi 8 (by omega), h.cell i hi 9 (by omega), h.cell i hi 10 (by omega), (h.part i hi 0 (by omega)).1, (h.part i hi 1 (by omega)).1, (h.part i hi 2 (by omega)).1, (h.part i hi 3 (by omega)).1⟩

theorem LiesC.turned {w w' : World} {b off : Nat} {ds : List Ch} {ad : Nat → PlC} {S : Nat → Prop} (h : LiesC w b off ds ad) (ht : Turned w w' S) (hn : ∀ x, blocksC b ds.length ad x → ¬ S x) : LiesC w' b off ds ad :=
  ⟨fun i hi r hr => ht.cell (h.cell i hi r hr) (hn _ (.inl rfl)), fun o => (ht.frozen (a := ⟨b, _, none⟩) h.lt (hn _ (.inl rfl))).trans (h.soft o), fun i hi r hr => PartC.turned ht hr (h.part i hi r hr) fun x hx => hn x (.inr ⟨i, r, hi, hr, hx⟩), Nat.lt_of_lt_of_le h.lt ht.size⟩

theorem LiesC.below {w w' : World} {b off : Nat} {ds : List Ch} {ad : Nat → PlC} (h : LiesC w b off ds ad) (hb : Below w.heap.size w w') : LiesC w' b off ds ad :=
  h.turned (S := fun _ => False) (Turned.of_below hb) fun _ _ h => h

theorem cg_set {ds : List Ch} {j : Nat} (c : Ch) (hj : j < ds.length) : cg (ds.set j c) j = c := by simp [cg, hj]
theorem cg_set_ne {ds : List Ch} {i j : Nat} (c : Ch) (h : i ≠ j) : cg (ds.set j c) i = cg ds i := by simp [cg, List.getElem?_set_ne (Ne.symm h)]

/-- one cell of a change written -/
theorem LiesC.setC {w : World} {b off : Nat} {ds : List Ch} {ad : Nat → PlC} {j : Nat} {c c' : Ch} {r : Nat} {v : Value} (h : LiesC w b off (ds.set j c) ad) (hs : SepC b ds.length ad) (hj : j < ds.length) (hr : r < 11)
    (hv : ∀ q, q < 11 → chv c' (ad j) q = if q = r then v else chv c (ad j) q) (hp : ∀ u q, q < 4 → PartC u c (ad j) q → PartC u c' (ad j) q) :
    LiesC (w.setCell ⟨b, off + j * 11 + r, none⟩ v) b off (ds.set j c') ad := by
  have ht : Turned w (w.setCell ⟨b, off + j * 11 + r, none⟩ v) (fun x => x = b) := Turned.of_set w _ _ rfl
  have hl : (ds.set j c).length = ds.length := List.length_set
  have hl' : (ds.set j c').length = ds.length := List.length_set
  refine ⟨fun i hi q hq => ?_, fun o => by rw [World.frozen?_setCell]; exact h.soft o, fun i hi q hq => ?_, by simpa [World.setCell] using h.lt⟩
  · rw [hl'] at hi
    have h0 := h.cell i (by rw [hl]; exact hi) q hq
    by_cases e : i = j
    · subst e
      rw [cg_set _ hj] at h0 ⊢
      rw [hv q hq]
      by_cases e2 : q = r
      · subst e2
        rw [if_pos rfl]
        exact World.cell?_setCell_same _ _ _ h0
      · rw [if_neg e2, World.cell?_setCell_other _ _ _ _ (by simp <;> omega)]
        exact h0
    · rw [cg_set_ne _ e] at h0 ⊢
      rw [World.cell?_setCell_other _ _ _ _ (by simp <;> omega)]
      exact h0
  · rw [hl'] at hi
    have h0 := h.part i (by rw [hl]; exact hi) q hq
    have h1 := PartC.turned ht hq h0 fun x hx e => hs.own i q hi hq (e ▸ hx)
    by_cases e : i = j
    · subst e
      rw [cg_set _ hj] at h1 ⊢
      exact hp _ q hq h1
    · rw [cg_set_ne _ e] at h1 ⊢
      exact h1

/-- one part of a change written -/
theorem LiesC.setP {w w' : World} {b off : Nat} {ds : List Ch} {ad : Nat → PlC} {j : Nat} {c c' : Ch} {r : Nat} (h : LiesC w b off (ds.set j c) ad) (hs : SepC b ds.length ad) (hj : j < ds.length) (hr : r < 4) (hg : w.grownBy w' (blk (ad j r).1))
    (hv : ∀ q, q < 11 → chv c' (ad j) q = chv c (ad j) q) (hn : PartC w' c' (ad j) r) (hp : ∀ u q, q < 4 → q ≠ r → PartC u c (ad j) q → PartC u c' (ad j) q) :
    LiesC w' b off (ds.set j c') ad := by
  have ht : Turned w w' (fun x => blk (ad j r).1 = some x) := Turned.of_grown hg fun x hx => hx
  have hl : (ds.set j c).length = ds.length := List.length_set
  have hl' : (ds.set j c').length = ds.length := List.length_set
  have nb : ¬ blk (ad j r).1 = some b := hs.own j r hj hr
  refine ⟨fun i hi q hq => ?_, fun o => (ht.frozen (a := ⟨b, _, none⟩) h.lt nb).trans (h.soft o), fun i hi q hq => ?_, Nat.lt_of_lt_of_le h.lt ht.size⟩
  · rw [hl'] at hi
    have h0 := ht.cell (h.cell i (by rw [hl]; exact hi) q hq) nb
    by_cases e : i = j
    · subst e
      rw [cg_set _ hj] at h0 ⊢
      rw [hv q hq]
      exact h0
    · rw [cg_set_ne _ e] at h0 ⊢
      exact h0
  · rw [hl'] at hi
    by_cases e2 : i = j ∧ q = r
    · obtain ⟨rfl, rfl⟩ := e2
      rw [cg_set _ hj]
      exact hn
    · have h0 := h.part i (by rw [hl]; exact hi) q hq
      have h1 := PartC.turned ht hq h0 fun x hx e => hs.far i q j r hi hj hq hr (by omega) x hx e
      by_cases e : i = j
      · subst e
        rw [cg_set _ hj] at h1 ⊢
        exact hp _ q hq (fun e => e2 ⟨rfl, e⟩) h1
      · rw [cg_set_ne _ e] at h1 ⊢
        exact h1

/-- the places of what 'toChangeS' made -/
def plOfC (ds : List Ch) (ad : Nat → Nat4) (i : Nat) : PlC
  | 0 => (some ⟨(ad i).1, 0, none⟩, (cwf ds i).2.2.1.length)
  | 1 => (some ⟨(ad i).2.1, 0, none⟩, (cwf ds i).2.2.2.length)
  | 2 => (some ⟨(ad i).2.2.1, 0, none⟩, (cnf ds i).2.2.1.length)
  | _ => (some ⟨(ad i).2.2.2, 0, none⟩, (cnf ds i).2.2.2.length)

theorem blk_plOfC (ds : List Ch) (ad : Nat → Nat4) (i : Nat) {r : Nat} (hr : r < 4) {x : Nat} (h : blk (plOfC ds ad i r).1 = some x) :
    (r = 0 ∧ x = (ad i).1) ∨ (r = 1 ∧ x = (ad i).2.1) ∨ (r = 2 ∧ x = (ad i).2.2.1) ∨ (r = 3 ∧ x = (ad i).2.2.2) := by
  rcases r with _ | _ | _ | _ | r
  · simp [plOfC, blk] at h; omega
  · simp [plOfC, blk] at h; omega
  · simp [plOfC, blk] at h; omega
  · simp [plOfC, blk] at h; omega
  · omega

theorem liesC_of_row {ds : List Ch} {ad : Nat → Nat4} {w : World} {b : Nat} {t : TypeId} (h : w.rowIs b t (ds.length * 11) (chCell ds ad)) (hp : PartsC w b ds ad ds.length) : LiesC w b 0 ds (plOfC ds ad) ∧ SepC b ds.length (plOfC ds ad) := by
  refine ⟨⟨fun i hi r hr => ?_, fun o => h.frozen _, fun i hi r hr => ?_, h.lt⟩, ⟨fun i r hi hr e => ?_, fun i r j s hi hj hr hs hne x hx hy => ?_⟩⟩
  · rw [Nat.zero_add, h.cell (i := i * 11 + r) (by omega), chCell_at _ _ _ _ hr]
    rcases r with _ | _ | _ | _ | _ | _ | _ | _ | _ | _ | _ | r <;> first | rfl | omega
  · obtain ⟨q, _⟩ := hp i hi
    rcases r with _ | _ | _ | _ | r
    · exact ⟨PtsAt.of_row q.r1, Soft.of_row q.r1⟩
    · exact ⟨TagsAt.of_row q.r2, Soft.of_row q.r2⟩
    · exact ⟨PtsAt.of_row q.r3, Soft.of_row q.r3⟩
    · exact ⟨TagsAt.of_row q.r4, Soft.of_row q.r4⟩
    · omega
  · have := (hp i hi).1.far
    have := blk_plOfC ds ad i hr e
    omega
  · have h1 := blk_plOfC ds ad i hr hx
    have h2 := blk_plOfC ds ad j hs hy
    have a1 := (hp i hi).1.apart
    have a2 := (hp j hj).1.apart
    by_cases e : i = j
    · subst e
      omega
    · rcases Nat.lt_or_gt_of_ne e with q | q
      · have := (hp j hj).2 i q
        omega
      · have := (hp i hi).2 j q
        omega

theorem blocksC_of_row {ds : List Ch} {ad : Nat → Nat4} {w : World} {b lo : Nat} {t : TypeId} (h : w.rowIs b t (ds.length * 11) (chCell ds ad)) (hp : PartsC w b ds ad ds.length) (hb : lo ≤ b) : ∀ x, blocksC b ds.length (plOfC ds ad) x → lo ≤ x ∧ x < w.heap.size := by
  rintro x (rfl | ⟨i, r, hi, hr, e⟩)
  · exact ⟨hb, h.lt⟩
  · have h1 := blk_plOfC ds ad i hr e
    have h2 := (hp i hi).1.far
    have h3 := (hp i hi).1.lt
    omega

/-- the cells of a change, in a row -/
def cellsC (c : Ch) (p : PlC) : List Value := [.string c.1, .bool c.2.1, .string c.2.2.1.1, .int .i64 c.2.2.1.2.1, .slice (p 0).1 c.2.2.1.2.2.1.length (p 0).2, .slice (p 1).1 c.2.2.1.2.2.2.length (p 1).2, .bool c.2.2.2.1, .string c.2.2.2.2.1, .int .i64 c.2.2.2.2.2.1, .slice (p 2).1 c.2.2.2.2.2.2.1.length (p 2).2, .slice (p 3).1 c.2.2.2.2.2.2.2.length (p 3).2]
def flatC (ds : List Ch) (ad : Nat → PlC) (k : Nat) : List Value := (List.range k).flatMap fun i => cellsC (cg ds i) (ad i)
def plSetC (ad : Nat → PlC) (k : Nat) (p : PlC) : Nat → PlC := fun i => if i = k then p else ad i

theorem plSetC_at (ad : Nat → PlC) (k : Nat) (p : PlC) : plSetC ad k p k = p := if_pos rfl
theorem plSetC_lt {ad : Nat → PlC} {k i : Nat} {p : PlC} (h : i < k) : plSetC ad k p i = ad i := if_neg (by omega)
theorem flatC_succ (ds : List Ch) (ad : Nat → PlC) (k : Nat) : flatC ds ad (k + 1) = flatC ds ad k ++ cellsC (cg ds k) (ad k) := by simp [flatC, List.range_succ, List.flatMap_append]
theorem flatC_len (ds : List Ch) (ad : Nat → PlC) : ∀ k, (flatC ds ad k).length = k * 11
  | 0 => rfl
  | k + 1 => by
    rw [flatC_succ, List.length_append, flatC_len ds ad k]
    simp [cellsC]
    omega
theorem flatC_at (ds : List Ch) (ad : Nat → PlC) : ∀ k i o, i < k → o < 11 → (flatC ds ad k)[i * 11 + o]? = some (chv (cg ds i) (ad i) o)
  | 0, i, o, hi, _ => absurd hi (Nat.not_lt_zero _)
  | k + 1, i, o, hi, ho => by
    rw [flatC_succ]
    have hl := flatC_len ds ad k
    by_cases e : i = k
    · subst e
      rw [List.getElem?_append_right (by omega), hl, show i * 11 + o - i * 11 = o by omega]
      rcases o with _ | _ | _ | _ | _ | _ | _ | _ | _ | _ | _ | o <;> first | rfl | omega
    · rw [List.getElem?_append_left (by omega)]
      exact flatC_at ds ad k i o (by omega) ho
theorem flatC_set (ds : List Ch) (ad : Nat → PlC) (p : PlC) (n : Nat) : ∀ k, k ≤ n → flatC ds (plSetC ad n p) k = flatC ds ad k
  | 0, _ => rfl
  | k + 1, h => by rw [flatC_succ, flatC_succ, flatC_set ds ad p n k (by omega), plSetC_lt (by omega)]

/-- the blocks of a change's parts -/
def inPartC (p : PlC) (x : Nat) : Prop := ∃ r, r < 4 ∧ blk (p r).1 = some x

/-- a list of changes that is being built -/
structure BuiltC (w : World) (lo : Nat) (v : Value) (k : Nat) (ds : List Ch) (ad : Nat → PlC) : Prop where
  row : w.ownsRow lo 65 11 v k (flatC ds ad k)
  part : ∀ i, i < k → ∀ r, r < 4 → PartC w (cg ds i) (ad i) r
  rng : ∀ i, i < k → ∀ x, inPartC (ad i) x → lo ≤ x ∧ x < w.heap.size ∧ v.ownBlock ≠ some x
  two : ∀ i, i < k → ∀ r s, r < 4 → s < 4 → r ≠ s → Apart (ad i r).1 (ad i s).1
  far : ∀ i j, i < j → j < k → ∀ x, inPartC (ad i) x → ¬ inPartC (ad j) x

theorem builtC_none (w : World) (lo : Nat) (ds : List Ch) (ad : Nat → PlC) : BuiltC w lo (.slice none 0 0) 0 ds ad :=
  ⟨World.ownsRow_nil _ _ _ _, fun _ h => absurd h (Nat.not_lt_zero _), fun _ h => absurd h (Nat.not_lt_zero _), fun _ h => absurd h (Nat.not_lt_zero _), fun _ _ _ h => absurd h (Nat.not_lt_zero _)⟩

theorem BuiltC.below {w w' : World} {lo : Nat} {v : Value} {k : Nat} {ds : List Ch} {ad : Nat → PlC} (h : BuiltC w lo v k ds ad) (hb : Below w.heap.size w w') : BuiltC w' lo v k ds ad :=
  ⟨ownsRow_below h.row hb, fun i hi r hr => PartC.below hb hr (h.part i hi r hr), fun i hi x hx => ⟨(h.rng i hi x hx).1, Nat.lt_of_lt_of_le (h.rng i hi x hx).2.1 hb.size, (h.rng i hi x hx).2.2⟩, h.two, h.far⟩

/-- one more change, appended -/
theorem BuiltC.step {wr w3 wb wa : World} {lo : Nat} {v : Value} {k : Nat} {ds : List Ch} {ad : Nat → PlC} {p : PlC} {gg cap' : Nat} (h : BuiltC wr lo v k ds ad) (hlo : lo ≤ wr.heap.size) (hb : Below wr.heap.size wr w3) (h3 : Below w3.heap.size w3 wb)
    (hp : ∀ r, r < 4 → PartC w3 (cg ds k) p r) (hpf : ∀ r, r < 4 → Fresh wr w3 (p r).1) (hap : ∀ r s, r < 4 → s < 4 → r ≠ s → Apart (p r).1 (p s).1)
    (hrow : wa.ownsRow lo 65 11 (.slice (some ⟨gg, 0, none⟩) (k + 1) cap') (k + 1) (flatC ds ad k ++ cellsC (cg ds k) p)) (hg : wb.grownBy wa v.ownBlock) (hat : v.ownBlock = some gg ∨ w3.heap.size ≤ gg) :
    BuiltC wa lo (.slice (some ⟨gg, 0, none⟩) (k + 1) cap') (k + 1) ds (plSetC ad k p) := by
  have hbb : Below wr.heap.size wr wb := hb.trans (h3.mono hb.size)
  have hB := h.below hbb
  have hvl : ∀ x, v.ownBlock = some x → x < wr.heap.size := fun x hx => (h.row.lt x hx).2
  have ht' : Turned wb wa (fun x => v.ownBlock = some x) := Turned.of_grown hg fun x hx => hx
  have hwz := hg.size
  have h3z := h3.size
  have hfr : ∀ x, inPartC p x → wr.heap.size ≤ x ∧ x < w3.heap.size := fun x ⟨r, hr, hx⟩ => hpf r hr x hx
  have hs3 := hb.size
  have nv : ∀ x, inPartC p x → ¬ v.ownBlock = some x := fun x hx e => by have h1 := (hfr x hx).1; have h2 := hvl x e; omega
  have gne : ∀ x, x < w3.heap.size → ¬ v.ownBlock = some x → gg ≠ x := fun x hx hn e => by
    rcases hat with h1 | h1
    · exact hn (by rw [h1, e])
    · omega
  have own' : ∀ x, (Value.slice (some ⟨gg, 0, none⟩) (k + 1) cap').ownBlock = some x → gg = x := fun x hx => by simpa [Value.ownBlock] using hx
  refine ⟨?_, fun i hi r hr => ?_, fun i hi x hx => ?_, fun i hi => ?_, fun i j hij hj x hx hy => ?_⟩
  · rw [flatC_succ, flatC_set _ _ _ _ _ (Nat.le_refl _), plSetC_at]
    exact hrow
  · by_cases e : i = k
    · subst e
      rw [plSetC_at]
      exact PartC.turned ht' hr (PartC.below h3 hr (hp r hr)) fun x hx => nv x ⟨r, hr, hx⟩
    · rw [plSetC_lt (by omega)]
      exact PartC.turned ht' hr (hB.part i (by omega) r hr) fun x hx e => (h.rng i (by omega) x ⟨r, hr, hx⟩).2.2 e
  · by_cases e : i = k
    · subst e
      rw [plSetC_at] at hx
      obtain ⟨q1, q2⟩ := hfr x hx
      exact ⟨by omega, by omega, fun e => gne x q2 (nv x hx) (own' x e)⟩
    · rw [plSetC_lt (by omega)] at hx
      obtain ⟨q1, q2, q3⟩ := h.rng i (by omega) x hx
      exact ⟨q1, by omega, fun e => gne x (by omega) q3 (own' x e)⟩
  · by_cases e : i = k
    · subst e
      rw [plSetC_at]
      exact hap
    · rw [plSetC_lt (by omega)]
      exact h.two i (by omega)
  · rw [plSetC_lt (by omega)] at hx
    by_cases e : j = k
    · subst e
      rw [plSetC_at] at hy
      have h1 := (hfr x hy).1
      have h2 := (h.rng i (by omega) x hx).2.1
      omega
    · rw [plSetC_lt (by omega)] at hy
      exact h.far i j hij (by omega) x hx hy

/-- a built list lies in memory of its own -/
theorem BuiltC.lies {w : World} {lo b cap : Nat} {ds : List Ch} {ad : Nat → PlC} (h : BuiltC w lo (.slice (some ⟨b, 0, none⟩) ds.length cap) ds.length ds ad) : LiesC w b 0 ds ad ∧ SepC b ds.length ad ∧ (∀ x, blocksC b ds.length ad x → lo ≤ x ∧ x < w.heap.size) := by
  obtain ⟨h1, ⟨h2, _⟩ | ⟨g, cap2, cur, e, hb, hg, hc, hm, hs, hx⟩⟩ := h.row
  · simp at h2
  · obtain ⟨rfl, rfl⟩ : b = g ∧ cap = cap2 := by simpa using e
    have hlt : b < w.heap.size := (Array.getElem?_eq_some_iff.1 hg).1
    have cell : ∀ j v, j < ds.length * 11 → (flatC ds ad ds.length)[j]? = some v → w.cell? ⟨b, 0 + j, none⟩ = some v := by
      intro j v hj hv
      rw [← hx, List.getElem?_take, if_pos hj] at hv
      simp only [World.cell?, hg, Option.isSome_none, Bool.false_eq_true, if_false, Nat.zero_add]
      simpa using hv
    refine ⟨⟨fun i hi r hr => ?_, fun o => ?_, h.part, hlt⟩, ⟨fun i r hi hr e => (h.rng i hi b ⟨r, hr, e⟩).2.2 rfl, fun i r j s hi hj hr hs hne => ?_⟩, ?_⟩
    · have := cell (i * 11 + r) _ (by omega) (flatC_at ds ad ds.length i r hi hr)
      rwa [← Nat.add_assoc] at this
    · simp [World.frozen?, hg]
    · by_cases e : i = j
      · subst e
        exact h.two i hi r s hr hs (by omega)
      · intro x hx hy
        rcases Nat.lt_or_gt_of_ne e with q | q
        · exact h.far i j q hj x ⟨r, hr, hx⟩ ⟨s, hs, hy⟩
        · exact h.far j i q hi x ⟨s, hs, hy⟩ ⟨r, hr, hx⟩
    · rintro x (rfl | ⟨i, r, hi, hr, e⟩)
      · exact ⟨hb, hlt⟩
      · exact ⟨(h.rng i hi x ⟨r, hr, e⟩).1, (h.rng i hi x ⟨r, hr, e⟩).2.1⟩

/-- a list of changes that lies in memory of its own between these blocks -/
def ListHC (lo hi : Nat) (w : World) (a : Option Addr) (ds : List Ch) : Prop :=
  ds = [] ∨ ∃ b ad, a = some ⟨b, 0, none⟩ ∧ LiesC w b 0 ds ad ∧ SepC b ds.length ad ∧ ∀ x, blocksC b ds.length ad x → lo ≤ x ∧ x < hi

theorem BuiltC.listH {w : World} {lo : Nat} {v : Value} {ds : List Ch} {ad : Nat → PlC} (h : BuiltC w lo v ds.length ds ad) : ∃ a cap, v = .slice a ds.length cap ∧ ListHC lo w.heap.size w a ds := by
  obtain ⟨h1, ⟨h2, h3⟩ | ⟨b, cap, cur, rfl, _⟩⟩ := h.row
  · exact ⟨none, 0, by rw [h2, h3], .inl (List.eq_nil_of_length_eq_zero h3)⟩
  · exact ⟨some ⟨b, 0, none⟩, cap, rfl, .inr ⟨b, ad, rfl, h.lies.1, h.lies.2.1, h.lies.2.2⟩⟩

theorem ListHC.reads {lo hi : Nat} {w : World} {a : Option Addr} {ds : List Ch} (h : ListHC lo hi w a ds) : ChangesAt w a ds := by
  rcases h with rfl | ⟨b, ad, rfl, h, _⟩
  · exact ChangesAt.nil _ _
  · exact h.reads

theorem ListHC.turned {lo hi : Nat} {w w' : World} {a : Option Addr} {ds : List Ch} {S : Nat → Prop} (h : ListHC lo hi w a ds) (ht : Turned w w' S) (hS : ∀ x, lo ≤ x → x < hi → ¬ S x) : ListHC lo hi w' a ds := by
  rcases h with rfl | ⟨b, ad, rfl, h, h2, h3⟩
  · exact .inl rfl
  · exact .inr ⟨b, ad, rfl, h.turned ht (fun x hx => hS x (h3 x hx).1 (h3 x hx).2), h2, h3⟩

theorem ListHC.below {lo hi : Nat} {w w' : World} {a : Option Addr} {ds : List Ch} (h : ListHC lo hi w a ds) (hb : Below w.heap.size w w') : ListHC lo hi w' a ds := h.turned (S := fun _ => False) (Turned.of_below hb) fun _ _ _ h => h
end Go.Proofs.YtelimcknhaflfaaGreat

namespace Go.Proofs.YtelimcknhaflfaaGreat
set_option linter.unusedVariables false
open Go.ChangeShapes Go.WideShapes Go.ChangeAt Go.RowKit

/-- the number of the first mark of a change's second side -/
def cmS (c : Ch) (m : Int) : Int := m + 1 + 1 + 1 + 1 + 2 * (c.2.2.1.2.2.1.length : Int) + 2 * (c.2.2.1.2.2.2.length : Int)
/-- the number of the first mark behind a change -/
def cmE (c : Ch) (m : Int) : Int := cmS c m + 1 + 1 + 1 + 2 * (c.2.2.2.2.2.2.1.length : Int) + 2 * (c.2.2.2.2.2.2.2.length : Int)
/-- a change's marks -/
def cmC (c : Ch) (m : Int) : Ch :=
  (markT m, (m + 1) % 3 == 0, (markT (m + 1 + 1), m + 1 + 1 + 1, marks (m + 1 + 1 + 1 + 1) c.2.2.1.2.2.1.length, marksT (m + 1 + 1 + 1 + 1 + 2 * (c.2.2.1.2.2.1.length : Int)) c.2.2.1.2.2.2.length),
   cmS c m % 3 == 0, (markT (cmS c m + 1), cmS c m + 1 + 1, marks (cmS c m + 1 + 1 + 1) c.2.2.2.2.2.2.1.length, marksT (cmS c m + 1 + 1 + 1 + 2 * (c.2.2.2.2.2.2.1.length : Int)) c.2.2.2.2.2.2.2.length))
/-- the number of the first mark of a change of a list -/
def cmn (ds : List Ch) (k : Int) : Nat → Int
  | 0 => k
  | i + 1 => cmE (cg ds i) (cmn ds k i)
/-- the changes, the first ones marked -/
def cmTo (ds : List Ch) (k : Int) (j : Nat) : List Ch := (List.range ds.length).map fun i => if i < j then cmC (cg ds i) (cmn ds k i) else cg ds i

theorem cmTo_len (ds : List Ch) (k : Int) (j : Nat) : (cmTo ds k j).length = ds.length := by simp [cmTo]
theorem cmTo_at {ds : List Ch} (k : Int) (j : Nat) {i : Nat} (h : i < ds.length) : cg (cmTo ds k j) i = if i < j then cmC (cg ds i) (cmn ds k i) else cg ds i := by
  rw [cg_get (by rw [cmTo_len]; exact h)]
  simp [cmTo]
theorem cmTo_zero (ds : List Ch) (k : Int) : cmTo ds k 0 = ds := by
  refine List.ext_getElem (cmTo_len _ _ _) fun i h1 h2 => ?_
  rw [← cg_get h1, ← cg_get h2, cmTo_at k 0 h2, if_neg (by omega)]
theorem cmTo_same {ds : List Ch} (k : Int) {j : Nat} (h : j < ds.length) : (cmTo ds k j).set j (cg ds j) = cmTo ds k j := by
  refine List.ext_getElem (by simp) fun i h1 h2 => ?_
  have hi : i < ds.length := by rw [cmTo_len] at h2; exact h2
  rw [← cg_get h1, ← cg_get h2]
  by_cases e : i = j
  · subst e
    rw [cg_set _ h2, cmTo_at k i hi, if_neg (by omega)]
  · rw [cg_set_ne _ e]
theorem cmTo_next {ds : List Ch} (k : Int) {j : Nat} (h : j < ds.length) : (cmTo ds k j).set j (cmC (cg ds j) (cmn ds k j)) = cmTo ds k (j + 1) := by
  refine List.ext_getElem (by simp [cmTo_len]) fun i h1 h2 => ?_
  have hi : i < ds.length := by rw [cmTo_len] at h2; exact h2
  rw [← cg_get h1, ← cg_get h2]
  by_cases e : i = j
  · subst e
    rw [cg_set _ (by rw [cmTo_len]; exact h), cmTo_at k (i + 1) hi, if_pos (by omega)]
  · rw [cg_set_ne _ e, cmTo_at k j hi, cmTo_at k (j + 1) hi]
    have : (i < j + 1) = (i < j) := by simp; omega
    simp only [this]

theorem cmn_le {ds : List Ch} {k : Int} (h0 : 0 ≤ k) (h4 : k ≤ 1000000000000000) (hL : ChLen ds 1048576) : ∀ i, i ≤ ds.length → 0 ≤ cmn ds k i ∧ cmn ds k i ≤ 1000000000000000 + i * 8388615
  | 0, _ => ⟨h0, by show k ≤ _; omega⟩
  | i + 1, hi => by
    obtain ⟨h1, h2⟩ := cmn_le h0 h4 hL i (by omega)
    obtain ⟨_, ⟨_, a1, a2, _⟩, ⟨_, a3, a4, _⟩⟩ := hL i (by omega)
    unfold cwf at a1 a2
    unfold cnf at a3 a4
    show 0 ≤ cmE (cg ds i) (cmn ds k i) ∧ cmE (cg ds i) (cmn ds k i) ≤ _
    unfold cmE cmS
    omega

theorem LiesC.at {w : World} {b off : Nat} {D : List Ch} {ad : Nat → PlC} {j : Nat} {c : Ch} (h : LiesC w b off (D.set j c) ad) (hj : j < D.length) (r : Nat) (hr : r < 11) : w.cell? ⟨b, off + j * 11 + r, none⟩ = some (chv c (ad j) r) := by
  have := h.cell j (by simpa using hj) r hr
  rwa [cg_set _ hj] at this
theorem LiesC.pt {w : World} {b off : Nat} {D : List Ch} {ad : Nat → PlC} {j : Nat} {c : Ch} (h : LiesC w b off (D.set j c) ad) (hj : j < D.length) (r : Nat) (hr : r < 4) : PartC w c (ad j) r := by
  have := h.part j (by simpa using hj) r hr
  rwa [cg_set _ hj] at this

set_option maxRecDepth 100000 in
set_option maxHeartbeats 8000000 in
theorem markChangeS_some (b off cap : Nat) (ds : List Ch) (ad : Nat → PlC) (k : Int) (w : World) (hl : ds.length ≤ 1048576) (hL : ChLen ds 1048576) (h0 : 0 ≤ k) (h4 : k ≤ 1000000000000000) (hlie : LiesC w b off ds ad) (hsep : SepC b ds.length ad) :
    Calls Tryz.prog 14 #[.slice (some ⟨b, off, none⟩) ds.length cap, .int .i64 k] w fun e w' => e = .returned (.int .i64 (cmn ds k ds.length)) ∧ LiesC w' b off (cmTo ds k ds.length) ad ∧ Turned w w' (blocksC b ds.length ad) := by
  have HL := Lib.hid hL
  have HLie : Hid (LiesC w b off (cmTo ds k 0) ad) := by rw [cmTo_zero]; exact hlie
  clear hL hlie
  go_enter Tryz.func14, Tryz.ntmps14
  go_wp2
  go_loopw [1, 5] (fun s1 i wr => ∃ j : Nat, j ≤ ds.length ∧ s1 = .int .i64 (cmn ds k j) ∧ i = .int .i64 j ∧ LiesC wr b off (cmTo ds k j) ad ∧ Turned w wr (blocksC b ds.length ad)) (fun _ i _ => ds.length - (intOf i).toNat)
  case atStart => exact ⟨0, Nat.zero_le _, rfl, rfl, HLie.out, Turned.refl _ _⟩
  case round =>
    clear HLie
    obtain ⟨j, hj, rfl, rfl, hlie, htu⟩ := hrel
    obtain ⟨k0, k1⟩ := cmn_le h0 h4 HL.out j hj
    by_cases hlt : j < ds.length
    · obtain ⟨_, ⟨_, a1, a2, _⟩, ⟨_, a3, a4, _⟩⟩ := HL.out j hlt
      unfold cwf at a1 a2
      unfold cnf at a3 a4
      have HE : Hid (cmn ds k (j + 1) = cmE (cg ds j) (cmn ds k j)) := rfl
      have HN := Lib.hid (cmTo_next k hlt)
      have hD : (cmTo ds k j).length = ds.length := cmTo_len _ _ _
      rw [← cmTo_same k hlt] at hlie
      have HS : Hid (SepC b (cmTo ds k j).length ad) := by rw [hD]; exact hsep
      have HBk : Hid (∀ x, x = b → blocksC b ds.length ad x) := fun x e => .inl e
      have HBp : Hid (∀ r x, r < 4 → blk (ad j r).1 = some x → blocksC b ds.length ad x) := fun r x hr hx => .inr ⟨j, r, hlt, hr, hx⟩
      have HQ : Hid (cmn ds k (j + 1) = cmE (cg ds j) (cmn ds k j)) := rfl
      obtain ⟨DE, hDE⟩ : ∃ DE, DE = cmTo ds k (j + 1) := ⟨_, rfl⟩
      have HR := Lib.hid hDE
      rw [← hDE] at HN
      clear hDE HE
      generalize cmTo ds k j = D at *
      generalize cmn ds k j = m at *
      generalize cg ds j = c at *
      have hlt' : j < D.length := by omega
      obtain ⟨i, h, ⟨fi, fk, fp, ft⟩, s, ⟨gi, gk, gp, gt⟩⟩ := c
      simp only at a1 a2 a3 a4
      have blt := hlie.lt
      have L0 := Lib.hid hlie
      have T0 := Lib.hid htu
      clear hlie htu
      go_wp2_with fail
      refine (markText_any _ _ (by omega)).mono ?_
      rintro e w1 ⟨rfl, hb⟩
      have L1 := Lib.hid (L0.out.below hb)
      have T1 : Hid (Turned w w1 (blocksC b ds.length ad)) := T0.out.trans (Turned.of_below hb)
      clear hb L0 T0
      have c0 : w1.cell? ⟨b, off + j * 11, none⟩ = some (.string (i)) := L1.out.at hlt' 0 (by omega)
      have f0 : w1.frozen? ⟨b, off + j * 11, none⟩ = false := L1.out.soft _
      have c1 : w1.cell? ⟨b, off + j * 11 + 1, none⟩ = some (.bool (h)) := L1.out.at hlt' 1 (by omega)
      have f1 : w1.frozen? ⟨b, off + j * 11 + 1, none⟩ = false := L1.out.soft _
      go_wp2_with fail
      generalize hw : ((w1.setCell ⟨b, off + j * 11, none⟩ (.string (markT m))).setCell ⟨b, off + j * 11 + 1, none⟩ (.bool ((m + 1) % 3 == 0))) = w2
      have L2 : Hid (LiesC w2 b off (D.set j (markT m, (m + 1) % 3 == 0, (fi, fk, fp, ft), s, (gi, gk, gp, gt))) ad) := by rw [← hw]; exact ((L1.out.setC (c' := (markT m, h, (fi, fk, fp, ft), s, (gi, gk, gp, gt))) (r := 0) (v := .string (markT m)) HS.out hlt' (by omega) (by intro q hq; rcases q with _ | _ | _ | _ | _ | _ | _ | _ | _ | _ | _ | q <;> first | rfl | omega) (by intro u q hq h; rcases q with _ | _ | _ | _ | q <;> first | exact h | omega)).setC (c' := (markT m, (m + 1) % 3 == 0, (fi, fk, fp, ft), s, (gi, gk, gp, gt))) (r := 1) (v := .bool ((m + 1) % 3 == 0)) HS.out hlt' (by omega) (by intro q hq; rcases q with _ | _ | _ | _ | _ | _ | _ | _ | _ | _ | _ | q <;> first | rfl | omega) (by intro u q hq h; rcases q with _ | _ | _ | _ | q <;> first | exact h | omega))
      have T2 : Hid (Turned w w2 (blocksC b ds.length ad)) := by rw [← hw]; exact ((T1.out.trans (Turned.of_set _ _ _ (HBk.out _ rfl))).trans (Turned.of_set _ _ _ (HBk.out _ rfl)))
      clear hw L1 T1
      clear c0 c1 f0 f1
      refine (markText_any _ _ (by omega)).mono ?_
      rintro e w3 ⟨rfl, hb⟩
      have L3 := Lib.hid (L2.out.below hb)
      have T3 : Hid (Turned w w3 (blocksC b ds.length ad)) := T2.out.trans (Turned.of_below hb)
      clear hb L2 T2
      have c2 : w3.cell? ⟨b, off + j * 11 + 2, none⟩ = some (.string (fi)) := L3.out.at hlt' 2 (by omega)
      have f2 : w3.frozen? ⟨b, off + j * 11 + 2, none⟩ = false := L3.out.soft _
      have c3 : w3.cell? ⟨b, off + j * 11 + 3, none⟩ = some (.int .i64 (fk)) := L3.out.at hlt' 3 (by omega)
      have f3 : w3.frozen? ⟨b, off + j * 11 + 3, none⟩ = false := L3.out.soft _
      have c4 : w3.cell? ⟨b, off + j * 11 + 4, none⟩ = some (.slice (ad j 0).1 fp.length (ad j 0).2) := by first | exact L3.out.at hlt' 4 (by omega) | (have := L3.out.at hlt' 4 (by omega); simpa only [chv, marks_len, marksT_len] using this)
      go_wp2_with fail
      generalize hw : ((w3.setCell ⟨b, off + j * 11 + 2, none⟩ (.string (markT (m + 1 + 1)))).setCell ⟨b, off + j * 11 + 3, none⟩ (.int .i64 (m + 1 + 1 + 1))) = w4
      have L4 : Hid (LiesC w4 b off (D.set j (markT m, (m + 1) % 3 == 0, (markT (m + 1 + 1), m + 1 + 1 + 1, fp, ft), s, (gi, gk, gp, gt))) ad) := by rw [← hw]; exact ((L3.out.setC (c' := (markT m, (m + 1) % 3 == 0, (markT (m + 1 + 1), fk, fp, ft), s, (gi, gk, gp, gt))) (r := 2) (v := .string (markT (m + 1 + 1))) HS.out hlt' (by omega) (by intro q hq; rcases q with _ | _ | _ | _ | _ | _ | _ | _ | _ | _ | _ | q <;> first | rfl | omega) (by intro u q hq h; rcases q with _ | _ | _ | _ | q <;> first | exact h | omega)).setC (c' := (markT m, (m + 1) % 3 == 0, (markT (m + 1 + 1), m + 1 + 1 + 1, fp, ft), s, (gi, gk, gp, gt))) (r := 3) (v := .int .i64 (m + 1 + 1 + 1)) HS.out hlt' (by omega) (by intro q hq; rcases q with _ | _ | _ | _ | _ | _ | _ | _ | _ | _ | _ | q <;> first | rfl | omega) (by intro u q hq h; rcases q with _ | _ | _ | _ | q <;> first | exact h | omega))
      have T4 : Hid (Turned w w4 (blocksC b ds.length ad)) := by rw [← hw]; exact ((T3.out.trans (Turned.of_set _ _ _ (HBk.out _ rfl))).trans (Turned.of_set _ _ _ (HBk.out _ rfl)))
      clear hw L3 T3
      clear c2 c3 f2 f3 c4
      have PP : Hid (PtsAt w4 (ad j 0).1 fp) := (L4.out.pt hlt' 0 (by omega)).1
      have PS : Hid (Soft w4 (ad j 0).1 fp.length) := (L4.out.pt hlt' 0 (by omega)).2
      refine (markPtS_any _ _ _ _ _ PP.out PS.out (by omega) (by omega) (by omega)).mono ?_
      rintro e w5 ⟨rfl, g1, g2, g3, g4⟩
      have L5 : Hid (LiesC w5 b off (D.set j (markT m, (m + 1) % 3 == 0, (markT (m + 1 + 1), m + 1 + 1 + 1, marks (m + 1 + 1 + 1 + 1) fp.length, ft), s, (gi, gk, gp, gt))) ad) := L4.out.setP (r := 0) HS.out hlt' (by omega) g3 (by intro q hq; rcases q with _ | _ | _ | _ | _ | _ | _ | _ | _ | _ | _ | q <;> first | rfl | (simp only [chv, marks_len]) | omega) ⟨g1, by show Soft _ _ (marks (m + 1 + 1 + 1 + 1) fp.length).length; rw [marks_len]; exact g2⟩ (by intro u q hq hne h; rcases q with _ | _ | _ | _ | q <;> first | exact h | omega)
      have T5 : Hid (Turned w w5 (blocksC b ds.length ad)) := T4.out.trans (Turned.of_grown g3 fun x hx => HBp.out 0 x (by omega) hx)
      clear PP PS g1 g2 g3 L4 T4 g4
      have c5 : w5.cell? ⟨b, off + j * 11 + 5, none⟩ = some (.slice (ad j 1).1 ft.length (ad j 1).2) := by first | exact L5.out.at hlt' 5 (by omega) | (have := L5.out.at hlt' 5 (by omega); simpa only [chv, marks_len, marksT_len] using this)
      go_wp2_with fail
      clear c5
      have PP : Hid (TagsAt w5 (ad j 1).1 ft) := (L5.out.pt hlt' 1 (by omega)).1
      have PS : Hid (Soft w5 (ad j 1).1 ft.length) := (L5.out.pt hlt' 1 (by omega)).2
      refine (markTagS_any _ _ _ _ _ PP.out PS.out (by omega) (by omega) (by omega)).mono ?_
      rintro e w6 ⟨rfl, g1, g2, g3⟩
      have L6 : Hid (LiesC w6 b off (D.set j (markT m, (m + 1) % 3 == 0, (markT (m + 1 + 1), m + 1 + 1 + 1, marks (m + 1 + 1 + 1 + 1) fp.length, marksT (m + 1 + 1 + 1 + 1 + 2 * (fp.length : Int)) ft.length), s, (gi, gk, gp, gt))) ad) := L5.out.setP (r := 1) HS.out hlt' (by omega) g3 (by intro q hq; rcases q with _ | _ | _ | _ | _ | _ | _ | _ | _ | _ | _ | q <;> first | rfl | (simp only [chv, marksT_len]) | omega) ⟨g1, by show Soft _ _ (marksT (m + 1 + 1 + 1 + 1 + 2 * (fp.length : Int)) ft.length).length; rw [marksT_len]; exact g2⟩ (by intro u q hq hne h; rcases q with _ | _ | _ | _ | q <;> first | exact h | omega)
      have T6 : Hid (Turned w w6 (blocksC b ds.length ad)) := T5.out.trans (Turned.of_grown g3 fun x hx => HBp.out 1 x (by omega) hx)
      clear PP PS g1 g2 g3 L5 T5
      have c6 : w6.cell? ⟨b, off + j * 11 + 6, none⟩ = some (.bool (s)) := L6.out.at hlt' 6 (by omega)
      have f6 : w6.frozen? ⟨b, off + j * 11 + 6, none⟩ = false := L6.out.soft _
      go_wp2_with fail
      generalize hw : (w6.setCell ⟨b, off + j * 11 + 6, none⟩ (.bool ((m + 1 + 1 + 1 + 1 + 2 * (fp.length : Int) + 2 * (ft.length : Int)) % 3 == 0))) = w7
      have L7 : Hid (LiesC w7 b off (D.set j (markT m, (m + 1) % 3 == 0, (markT (m + 1 + 1), m + 1 + 1 + 1, marks (m + 1 + 1 + 1 + 1) fp.length, marksT (m + 1 + 1 + 1 + 1 + 2 * (fp.length : Int)) ft.length), (m + 1 + 1 + 1 + 1 + 2 * (fp.length : Int) + 2 * (ft.length : Int)) % 3 == 0, (gi, gk, gp, gt))) ad) := by rw [← hw]; exact (L6.out.setC (c' := (markT m, (m + 1) % 3 == 0, (markT (m + 1 + 1), m + 1 + 1 + 1, marks (m + 1 + 1 + 1 + 1) fp.length, marksT (m + 1 + 1 + 1 + 1 + 2 * (fp.length : Int)) ft.length), (m + 1 + 1 + 1 + 1 + 2 * (fp.length : Int) + 2 * (ft.length : Int)) % 3 == 0, (gi, gk, gp, gt))) (r := 6) (v := .bool ((m + 1 + 1 + 1 + 1 + 2 * (fp.length : Int) + 2 * (ft.length : Int)) % 3 == 0)) HS.out hlt' (by omega) (by intro q hq; rcases q with _ | _ | _ | _ | _ | _ | _ | _ | _ | _ | _ | q <;> first | rfl | omega) (by intro u q hq h; rcases q with _ | _ | _ | _ | q <;> first | exact h | omega))
      have T7 : Hid (Turned w w7 (blocksC b ds.length ad)) := by rw [← hw]; exact (T6.out.trans (Turned.of_set _ _ _ (HBk.out _ rfl)))
      clear hw L6 T6
      clear c6 f6
      refine (markText_any _ _ (by omega)).mono ?_
      rintro e w8 ⟨rfl, hb⟩
      have L8 := Lib.hid (L7.out.below hb)
      have T8 : Hid (Turned w w8 (blocksC b ds.length ad)) := T7.out.trans (Turned.of_below hb)
      clear hb L7 T7
      have c7 : w8.cell? ⟨b, off + j * 11 + 7, none⟩ = some (.string (gi)) := L8.out.at hlt' 7 (by omega)
      have f7 : w8.frozen? ⟨b, off + j * 11 + 7, none⟩ = false := L8.out.soft _
      have c8 : w8.cell? ⟨b, off + j * 11 + 8, none⟩ = some (.int .i64 (gk)) := L8.out.at hlt' 8 (by omega)
      have f8 : w8.frozen? ⟨b, off + j * 11 + 8, none⟩ = false := L8.out.soft _
      have c9 : w8.cell? ⟨b, off + j * 11 + 9, none⟩ = some (.slice (ad j 2).1 gp.length (ad j 2).2) := by first | exact L8.out.at hlt' 9 (by omega) | (have := L8.out.at hlt' 9 (by omega); simpa only [chv, marks_len, marksT_len] using this)
      go_wp2_with fail
      generalize hw : ((w8.setCell ⟨b, off + j * 11 + 7, none⟩ (.string (markT (m + 1 + 1 + 1 + 1 + 2 * (fp.length : Int) + 2 * (ft.length : Int) + 1)))).setCell ⟨b, off + j * 11 + 8, none⟩ (.int .i64 (m + 1 + 1 + 1 + 1 + 2 * (fp.length : Int) + 2 * (ft.length : Int) + 1 + 1))) = w9
      have L9 : Hid (LiesC w9 b off (D.set j (markT m, (m + 1) % 3 == 0, (markT (m + 1 + 1), m + 1 + 1 + 1, marks (m + 1 + 1 + 1 + 1) fp.length, marksT (m + 1 + 1 + 1 + 1 + 2 * (fp.length : Int)) ft.length), (m + 1 + 1 + 1 + 1 + 2 * (fp.length : Int) + 2 * (ft.length : Int)) % 3 == 0, (markT (m + 1 + 1 + 1 + 1 + 2 * (fp.length : Int) + 2 * (ft.length : Int) + 1), m + 1 + 1 + 1 + 1 + 2 * (fp.length : Int) + 2 * (ft.length : Int) + 1 + 1, gp, gt))) ad) := by rw [← hw]; exact ((L8.out.setC (c' := (markT m, (m + 1) % 3 == 0, (markT (m + 1 + 1), m + 1 + 1 + 1, marks (m + 1 + 1 + 1 + 1) fp.length, marksT (m + 1 + 1 + 1 + 1 + 2 * (fp.length : Int)) ft.length), (m + 1 + 1 + 1 + 1 + 2 * (fp.length : Int) + 2 * (ft.length : Int)) % 3 == 0, (markT (m + 1 + 1 + 1 + 1 + 2 * (fp.length : Int) + 2 * (ft.length : Int) + 1), gk, gp, gt))) (r := 7) (v := .string (markT (m + 1 + 1 + 1 + 1 + 2 * (fp.length : Int) + 2 * (ft.length : Int) + 1))) HS.out hlt' (by omega) (by intro q hq; rcases q with _ | _ | _ | _ | _ | _ | _ | _ | _ | _ | _ | q <;> first | rfl | omega) (by intro u q hq h; rcases q with _ | _ | _ | _ | q <;> first | exact h | omega)).setC (c' := (markT m, (m + 1) % 3 == 0, (markT (m + 1 + 1), m + 1 + 1 + 1, marks (m + 1 + 1 + 1 + 1) fp.length, marksT (m + 1 + 1 + 1 + 1 + 2 * (fp.length : Int)) ft.length), (m + 1 + 1 + 1 + 1 + 2 * (fp.length : Int) + 2 * (ft.length : Int)) % 3 == 0, (markT (m + 1 + 1 + 1 + 1 + 2 * (fp.length : Int) + 2 * (ft.length : Int) + 1), m + 1 + 1 + 1 + 1 + 2 * (fp.length : Int) + 2 * (ft.length : Int) + 1 + 1, gp, gt))) (r := 8) (v := .int .i64 (m + 1 + 1 + 1 + 1 + 2 * (fp.length : Int) + 2 * (ft.length : Int) + 1 + 1)) HS.out hlt' (by omega) (by intro q hq; rcases q with _ | _ | _ | _ | _ | _ | _ | _ | _ | _ | _ | q <;> first | rfl | omega) (by intro u q hq h; rcases q with _ | _ | _ | _ | q <;> first | exact h | omega))
      have T9 : Hid (Turned w w9 (blocksC b ds.length ad)) := by rw [← hw]; exact ((T8.out.trans (Turned.of_set _ _ _ (HBk.out _ rfl))).trans (Turned.of_set _ _ _ (HBk.out _ rfl)))
      clear hw L8 T8
      clear c7 c8 f7 f8 c9
      have PP : Hid (PtsAt w9 (ad j 2).1 gp) := (L9.out.pt hlt' 2 (by omega)).1
      have PS : Hid (Soft w9 (ad j 2).1 gp.length) := (L9.out.pt hlt' 2 (by omega)).2
      refine (markPtS_any _ _ _ _ _ PP.out PS.out (by omega) (by omega) (by omega)).mono ?_
      rintro e w10 ⟨rfl, g1, g2, g3, g4⟩
      have L10 : Hid (LiesC w10 b off (D.set j (markT m, (m + 1) % 3 == 0, (markT (m + 1 + 1), m + 1 + 1 + 1, marks (m + 1 + 1 + 1 + 1) fp.length, marksT (m + 1 + 1 + 1 + 1 + 2 * (fp.length : Int)) ft.length), (m + 1 + 1 + 1 + 1 + 2 * (fp.length : Int) + 2 * (ft.length : Int)) % 3 == 0, (markT (m + 1 + 1 + 1 + 1 + 2 * (fp.length : Int) + 2 * (ft.length : Int) + 1), m + 1 + 1 + 1 + 1 + 2 * (fp.length : Int) + 2 * (ft.length : Int) + 1 + 1, marks (m + 1 + 1 + 1 + 1 + 2 * (fp.length : Int) + 2 * (ft.length : Int) + 1 + 1 + 1) gp.length, gt))) ad) := L9.out.setP (r := 2) HS.out hlt' (by omega) g3 (by intro q hq; rcases q with _ | _ | _ | _ | _ | _ | _ | _ | _ | _ | _ | q <;> first | rfl | (simp only [chv, marks_len]) | omega) ⟨g1, by show Soft _ _ (marks (m + 1 + 1 + 1 + 1 + 2 * (fp.length : Int) + 2 * (ft.length : Int) + 1 + 1 + 1) gp.length).length; rw [marks_len]; exact g2⟩ (by intro u q hq hne h; rcases q with _ | _ | _ | _ | q <;> first | exact h | omega)
      have T10 : Hid (Turned w w10 (blocksC b ds.length ad)) := T9.out.trans (Turned.of_grown g3 fun x hx => HBp.out 2 x (by omega) hx)
      clear PP PS g1 g2 g3 L9 T9 g4
      have c10 : w10.cell? ⟨b, off + j * 11 + 10, none⟩ = some (.slice (ad j 3).1 gt.length (ad j 3).2) := by first | exact L10.out.at hlt' 10 (by omega) | (have := L10.out.at hlt' 10 (by omega); simpa only [chv, marks_len, marksT_len] using this)
      go_wp2_with fail
      clear c10
      have PP : Hid (TagsAt w10 (ad j 3).1 gt) := (L10.out.pt hlt' 3 (by omega)).1
      have PS : Hid (Soft w10 (ad j 3).1 gt.length) := (L10.out.pt hlt' 3 (by omega)).2
      refine (markTagS_any _ _ _ _ _ PP.out PS.out (by omega) (by omega) (by omega)).mono ?_
      rintro e w11 ⟨rfl, g1, g2, g3⟩
      have L11 : Hid (LiesC w11 b off (D.set j (markT m, (m + 1) % 3 == 0, (markT (m + 1 + 1), m + 1 + 1 + 1, marks (m + 1 + 1 + 1 + 1) fp.length, marksT (m + 1 + 1 + 1 + 1 + 2 * (fp.length : Int)) ft.length), (m + 1 + 1 + 1 + 1 + 2 * (fp.length : Int) + 2 * (ft.length : Int)) % 3 == 0, (markT (m + 1 + 1 + 1 + 1 + 2 * (fp.length : Int) + 2 * (ft.length : Int) + 1), m + 1 + 1 + 1 + 1 + 2 * (fp.length : Int) + 2 * (ft.length : Int) + 1 + 1, marks (m + 1 + 1 + 1 + 1 + 2 * (fp.length : Int) + 2 * (ft.length : Int) + 1 + 1 + 1) gp.length, marksT (m + 1 + 1 + 1 + 1 + 2 * (fp.length : Int) + 2 * (ft.length : Int) + 1 + 1 + 1 + 2 * (gp.length : Int)) gt.length))) ad) := L10.out.setP (r := 3) HS.out hlt' (by omega) g3 (by intro q hq; rcases q with _ | _ | _ | _ | _ | _ | _ | _ | _ | _ | _ | q <;> first | rfl | (simp only [chv, marksT_len]) | omega) ⟨g1, by show Soft _ _ (marksT (m + 1 + 1 + 1 + 1 + 2 * (fp.length : Int) + 2 * (ft.length : Int) + 1 + 1 + 1 + 2 * (gp.length : Int)) gt.length).length; rw [marksT_len]; exact g2⟩ (by intro u q hq hne h; rcases q with _ | _ | _ | _ | q <;> first | exact h | omega)
      have T11 : Hid (Turned w w11 (blocksC b ds.length ad)) := T10.out.trans (Turned.of_grown g3 fun x hx => HBp.out 3 x (by omega) hx)
      clear PP PS g1 g2 g3 L10 T10
      have LE : Hid (LiesC w11 b off DE ad) := by rw [← HN.out]; exact L11.out
      clear L11
      go_wp2
      go_roundw
      case rel => exact ⟨j + 1, by omega, congrArg (Value.int .i64) (by rw [HQ.out]; rfl), by go_num, HR.out ▸ LE.out, T11.out⟩
      case measure => simp [intOf]; omega
    · obtain rfl : j = ds.length := by omega
      have LL := Lib.hid hlie
      have TT := Lib.hid htu
      clear hlie htu
      go_wp2
      go_ret
      exact ⟨rfl, LL.out, TT.out⟩
    
theorem markChangeS_nil (a : Option Addr) (cap : Nat) (k : Int) (w : World) :
    Calls Tryz.prog 14 #[.slice a 0 cap, .int .i64 k] w fun e w' => e = .returned (.int .i64 k) ∧ w' = w := by
  go_enter Tryz.func14, Tryz.ntmps14
  go_wp2
  go_loop [1, 5] (fun s1 i => s1 = .int .i64 k ∧ i = .int .i64 0) (fun _ _ => 0)
  case atStart => exact ⟨rfl, rfl⟩
  case round =>
    obtain ⟨rfl, rfl⟩ := hrel
    go_wp2
    go_ret
    exact ⟨rfl, rfl⟩

theorem markChangeS_list (lo hi : Nat) (a : Option Addr) (cap : Nat) (ds : List Ch) (k : Int) (w : World) (hl : ds.length ≤ 1048576) (hL : ChLen ds 1048576) (h0 : 0 ≤ k) (h4 : k ≤ 1000000000000000) (h : ListHC lo hi w a ds) :
    Calls Tryz.prog 14 #[.slice a ds.length cap, .int .i64 k] w fun e w' => e = .returned (.int .i64 (cmn ds k ds.length)) ∧ ChangesAt w' a (cmTo ds k ds.length) ∧ Turned w w' (fun x => lo ≤ x ∧ x < hi) := by
  rcases h with rfl | ⟨b, ad, rfl, h, h2, h3⟩
  · refine (markChangeS_nil a cap k w).mono fun e w' ⟨he, hw⟩ => ?_
    subst hw
    exact ⟨he, ChangesAt.nil _ _, Turned.refl _ _⟩
  · refine (markChangeS_some b 0 cap ds ad k w hl hL h0 h4 h h2).mono fun e w' ⟨he, hlie, ht⟩ => ⟨he, hlie.reads, ht.os, ht.tape, ht.output, ht.size, fun x hx hn => ht.block x hx fun hb => hn (h3 x hb)⟩

set_option maxRecDepth 100000 in
set_option maxHeartbeats 8000000 in
theorem heldChangeS_any (a : Option Addr) (cap : Nat) (ds : List Ch) (k : Int) (w : World) (hp : ChangesAt w a (cmTo ds k ds.length)) (hl : ds.length ≤ 1048576) (hL : ChLen ds 1048576) (h0 : 0 ≤ k) (h4 : k ≤ 1000000000000000) :
    Calls Tryz.prog 15 #[.slice a ds.length cap, .int .i64 k] w fun e w' => e = .returned (.int .i64 (cmn ds k ds.length)) ∧ Below w.heap.size w w' := by
  have HP := Lib.hid hp
  have HL := Lib.hid hL
  clear hp hL
  go_enter Tryz.func15, Tryz.ntmps15
  go_wp2
  go_loopw [1, 5] (fun q i wr => ∃ j : Nat, j ≤ ds.length ∧ i = .int .i64 j ∧ q = .int .i64 (cmn ds k j) ∧ Below w.heap.size w wr) (fun _ i _ => ds.length - (intOf i).toNat)
  case atStart => exact ⟨0, Nat.zero_le _, rfl, rfl, Below.refl _ _⟩
  case round =>
    obtain ⟨j, hj, rfl, rfl, hbel⟩ := hrel
    have B0 := Lib.hid hbel
    clear hbel
    by_cases hlt : j < ds.length
    · obtain ⟨b, off, pa, pc, ta, tc, qa, qc, ua, uc, rfl, hx⟩ := HP.out j (by rw [cmTo_len]; exact hlt)
      obtain ⟨k0, k1⟩ := cmn_le h0 h4 HL.out j hj
      obtain ⟨_, ⟨_, a1, a2, _⟩, ⟨_, a3, a4, _⟩⟩ := HL.out j hlt
      unfold cwf at a1 a2
      unfold cnf at a3 a4
      have HQ : Hid (cmn ds k (j + 1) = cmE (cg ds j) (cmn ds k j)) := rfl
      unfold cid chd cwf chs cnf at hx
      rw [cmTo_at k _ hlt, if_pos hlt] at hx
      generalize cmn ds k j = m at *
      generalize cg ds j = c at *
      obtain ⟨i, h, ⟨fi, fk, fp, ft⟩, s, ⟨gi, gk, gp, gt⟩⟩ := c
      simp only at a1 a2 a3 a4
      have C0 : Hid (∀ u, Below w.heap.size w u → u.cell? ⟨b, off + j * 11, none⟩ = some (.string (markT m))) := fun u hu => (hx.below hu).c0
      have C1 : Hid (∀ u, Below w.heap.size w u → u.cell? ⟨b, off + j * 11 + 1, none⟩ = some (.bool ((m + 1) % 3 == 0))) := fun u hu => (hx.below hu).c1
      have C2 : Hid (∀ u, Below w.heap.size w u → u.cell? ⟨b, off + j * 11 + 2, none⟩ = some (.string (markT (m + 1 + 1)))) := fun u hu => (hx.below hu).c2
      have C3 : Hid (∀ u, Below w.heap.size w u → u.cell? ⟨b, off + j * 11 + 3, none⟩ = some (.int .i64 (m + 1 + 1 + 1))) := fun u hu => (hx.below hu).c3
      have C4 : Hid (∀ u, Below w.heap.size w u → u.cell? ⟨b, off + j * 11 + 4, none⟩ = some (.slice pa fp.length pc)) := fun u hu => (by have := (hx.below hu).c4; simp only [cmC, marks_len] at this; exact this)
      have C5 : Hid (∀ u, Below w.heap.size w u → u.cell? ⟨b, off + j * 11 + 5, none⟩ = some (.slice ta ft.length tc)) := fun u hu => (by have := (hx.below hu).c5; simp only [cmC, marksT_len] at this; exact this)
      have C6 : Hid (∀ u, Below w.heap.size w u → u.cell? ⟨b, off + j * 11 + 6, none⟩ = some (.bool ((m + 1 + 1 + 1 + 1 + 2 * (fp.length : Int) + 2 * (ft.length : Int)) % 3 == 0))) := fun u hu => (hx.below hu).c6
      have C7 : Hid (∀ u, Below w.heap.size w u → u.cell? ⟨b, off + j * 11 + 7, none⟩ = some (.string (markT (m + 1 + 1 + 1 + 1 + 2 * (fp.length : Int) + 2 * (ft.length : Int) + 1)))) := fun u hu => (hx.below hu).c7
      have C8 : Hid (∀ u, Below w.heap.size w u → u.cell? ⟨b, off + j * 11 + 8, none⟩ = some (.int .i64 (m + 1 + 1 + 1 + 1 + 2 * (fp.length : Int) + 2 * (ft.length : Int) + 1 + 1))) := fun u hu => (hx.below hu).c8
      have C9 : Hid (∀ u, Below w.heap.size w u → u.cell? ⟨b, off + j * 11 + 9, none⟩ = some (.slice qa gp.length qc)) := fun u hu => (by have := (hx.below hu).c9; simp only [cmC, marks_len] at this; exact this)
      have C10 : Hid (∀ u, Below w.heap.size w u → u.cell? ⟨b, off + j * 11 + 10, none⟩ = some (.slice ua gt.length uc)) := fun u hu => (by have := (hx.below hu).c10; simp only [cmC, marksT_len] at this; exact this)
      have D0 : Hid (PtsAt w pa (marks (m + 1 + 1 + 1 + 1) fp.length)) := hx.pts
      have D1 : Hid (TagsAt w ta (marksT (m + 1 + 1 + 1 + 1 + 2 * (fp.length : Int)) ft.length)) := hx.tags
      have D2 : Hid (PtsAt w qa (marks (m + 1 + 1 + 1 + 1 + 2 * (fp.length : Int) + 2 * (ft.length : Int) + 1 + 1 + 1) gp.length)) := hx.qts
      have D3 : Hid (TagsAt w ua (marksT (m + 1 + 1 + 1 + 1 + 2 * (fp.length : Int) + 2 * (ft.length : Int) + 1 + 1 + 1 + 2 * (gp.length : Int)) gt.length)) := hx.uags
      have hb := hx.lt
      clear hx
      have e0 : ((markT m).toList == (markT m).toList) = true := by simp
      have e1 : (((m + 1) % 3 == 0) != ((m + 1) % 3 == 0)) = false := by simp
      have e2 : ((markT (m + 1 + 1)).toList == (markT (m + 1 + 1)).toList) = true := by simp
      have e3 : (m + 1 + 1 + 1 != m + 1 + 1 + 1) = false := by simp
      have e6 : (((m + 1 + 1 + 1 + 1 + 2 * (fp.length : Int) + 2 * (ft.length : Int)) % 3 == 0) != ((m + 1 + 1 + 1 + 1 + 2 * (fp.length : Int) + 2 * (ft.length : Int)) % 3 == 0)) = false := by simp
      have e7 : ((markT (m + 1 + 1 + 1 + 1 + 2 * (fp.length : Int) + 2 * (ft.length : Int) + 1)).toList == (markT (m + 1 + 1 + 1 + 1 + 2 * (fp.length : Int) + 2 * (ft.length : Int) + 1)).toList) = true := by simp
      have e8 : (m + 1 + 1 + 1 + 1 + 2 * (fp.length : Int) + 2 * (ft.length : Int) + 1 + 1 != m + 1 + 1 + 1 + 1 + 2 * (fp.length : Int) + 2 * (ft.length : Int) + 1 + 1) = false := by simp
      have c0 := C0.out _ B0.out
      go_upto_region 4 with (fail)
      go_cut [19] (fun s19 wx => s19 = .bool false ∧ Below w.heap.size w wx)
      case first =>
        go_region_held3 (fun w' => w'.cell? ⟨b, off + j * 11, none⟩ = some (.string (markT m)) ∧ Below w.heap.size w w')
          (first
            | exact ⟨c0, B0.out.drew⟩
            | (go_split_ands
               rename_i hS0 hS1
               exact ⟨cell_later hbn hS0, hS1.trans (hbn.mono hS1.size)⟩))
          (first
            | (go_at_call 34
               refine (markText_any _ _ (by omega)).mono ?_
               rintro e wn ⟨rfl, hbn⟩))
        all_goals (go_wp2_with fail; go_meet; go_split_ands; exact ⟨by simp, by assumption⟩)
      case rest =>
        obtain ⟨rfl, hB⟩ := hcut
        have B1 := Lib.hid hB
        clear hB c0 e0 C0
        have c1 := C1.out _ B1.out
        have c2 := C2.out _ B1.out
        go_upto_region 10 with (fail)
        go_cut [41] (fun s41 wx => s41 = .bool false ∧ Below w.heap.size w wx)
        case first =>
          go_region_held3 (fun w' => w'.cell? ⟨b, off + j * 11 + 2, none⟩ = some (.string (markT (m + 1 + 1))) ∧ Below w.heap.size w w')
            (first
              | exact ⟨c2, B1.out.drew⟩
              | (go_split_ands
                 rename_i hS0 hS1
                 exact ⟨cell_later hbn hS0, hS1.trans (hbn.mono hS1.size)⟩))
            (first
              | (go_at_call 34
                 refine (markText_any _ _ (by omega)).mono ?_
                 rintro e wn ⟨rfl, hbn⟩))
          all_goals (go_wp2_with fail; go_meet; go_split_ands; exact ⟨by simp, by assumption⟩)
        case rest =>
          obtain ⟨rfl, hB⟩ := hcut
          have B2 := Lib.hid hB
          clear hB c2 e2 C2
          have c3 := C3.out _ B2.out
          have c4 := C4.out _ B2.out
          go_wp2_with fail
          refine (heldPtS_any _ _ _ _ _ (D0.out.below B2.out) (by omega) (by omega) (by omega)).mono ?_
          rintro e w5 ⟨rfl, rfl⟩
          clear c1 c3 c4 e1 e3
          have c5 := C5.out _ B2.out
          go_wp2_with fail
          refine (heldTagS_any _ _ _ _ _ (D1.out.below B2.out) (by omega) (by omega) (by omega)).mono ?_
          rintro e w6 ⟨rfl, hb6⟩
          have B3 : Hid (Below w.heap.size w w6) := B2.out.trans (hb6.mono B2.out.size)
          clear hb6 c5
          have c6 := C6.out _ B3.out
          have c7 := C7.out _ B3.out
          go_upto_region 25 with (fail)
          go_cut [95] (fun s95 wx => s95 = .bool false ∧ Below w.heap.size w wx)
          case first =>
            go_region_held3 (fun w' => w'.cell? ⟨b, off + j * 11 + 7, none⟩ = some (.string (markT (m + 1 + 1 + 1 + 1 + 2 * (fp.length : Int) + 2 * (ft.length : Int) + 1))) ∧ Below w.heap.size w w')
              (first
                | exact ⟨c7, B3.out.drew⟩
                | (go_split_ands
                   rename_i hS0 hS1
                   exact ⟨cell_later hbn hS0, hS1.trans (hbn.mono hS1.size)⟩))
              (first
                | (go_at_call 34
                   refine (markText_any _ _ (by omega)).mono ?_
                   rintro e wn ⟨rfl, hbn⟩))
            all_goals (go_wp2_with fail; go_meet; go_split_ands; exact ⟨by simp, by assumption⟩)
          case rest =>
            obtain ⟨rfl, hB⟩ := hcut
            have B4 := Lib.hid hB
            clear hB c7 e7 C7
            have c8 := C8.out _ B4.out
            have c9 := C9.out _ B4.out
            go_wp2_with fail
            refine (heldPtS_any _ _ _ _ _ (D2.out.below B4.out) (by omega) (by omega) (by omega)).mono ?_
            rintro e w8 ⟨rfl, rfl⟩
            clear c6 c8 c9 e6 e8
            have c10 := C10.out _ B4.out
            go_wp2_with fail
            refine (heldTagS_any _ _ _ _ _ (D3.out.below B4.out) (by omega) (by omega) (by omega)).mono ?_
            rintro e w9 ⟨rfl, hb9⟩
            have B5 : Hid (Below w.heap.size w w9) := B4.out.trans (hb9.mono B4.out.size)
            clear hb9 c10
            go_wp2
            go_roundw
            case rel => exact ⟨j + 1, by omega, by go_num, congrArg (Value.int .i64) (by rw [HQ.out]; rfl), B5.out⟩
            case measure => simp [intOf]; omega
    · obtain rfl : j = ds.length := by omega
      go_wp2
      go_ret
      exact ⟨rfl, B0.out⟩
    
end Go.Proofs.YtelimcknhaflfaaGreat

namespace Go.Proofs.YtelimcknhaflfaaGreat
set_option linter.unusedVariables false
open Go.ChangeShapes Go.WideShapes Go.ChangeAt Go.RowKit

/-- a thing whose parts lie in blocks from this one on -/
def GotF (lo : Nat) (w : World) (f : Ft) (xa ya : Option Addr) : Prop :=
  PtsAt w xa f.2.2.1 ∧ TagsAt w ya f.2.2.2 ∧ (f.2.2.1.length = 0 ∨ ∀ x, blk xa = some x → lo ≤ x ∧ x < w.heap.size) ∧ (f.2.2.2.length = 0 ∨ ∀ x, blk ya = some x → lo ≤ x ∧ x < w.heap.size)

theorem GotF.mono {lo lo' : Nat} {w : World} {f : Ft} {xa ya : Option Addr} (h : GotF lo w f xa ya) (hl : lo' ≤ lo) : GotF lo' w f xa ya :=
  ⟨h.1, h.2.1, h.2.2.1.imp id fun q x hx => ⟨Nat.le_trans hl (q x hx).1, (q x hx).2⟩, h.2.2.2.imp id fun q x hx => ⟨Nat.le_trans hl (q x hx).1, (q x hx).2⟩⟩
theorem GotF.turned {lo : Nat} {w w' : World} {f : Ft} {xa ya : Option Addr} {S : Nat → Prop} (h : GotF lo w f xa ya) (ht : Turned w w' S) (hn : ∀ x, lo ≤ x → x < w.heap.size → ¬ S x) : GotF lo w' f xa ya := by
  obtain ⟨h1, h2, h3, h4⟩ := h
  refine ⟨?_, ?_, h3.imp id fun q x hx => ⟨(q x hx).1, Nat.lt_of_lt_of_le (q x hx).2 ht.size⟩, h4.imp id fun q x hx => ⟨(q x hx).1, Nat.lt_of_lt_of_le (q x hx).2 ht.size⟩⟩
  · rcases h3 with e | q
    · intro i hi
      omega
    · exact h1.turned ht fun x hx => hn x (q x hx).1 (q x hx).2
  · rcases h4 with e | q
    · intro i hi
      omega
    · exact h2.turned ht fun x hx => hn x (q x hx).1 (q x hx).2
theorem GotF.below {lo : Nat} {w w' : World} {f : Ft} {xa ya : Option Addr} (h : GotF lo w f xa ya) (hb : Below w.heap.size w w') : GotF lo w' f xa ya :=
  h.turned (S := fun _ => False) (Turned.of_below hb) fun _ _ _ h => h

theorem l2Copy_side (f : Ft) (pa : Option Addr) (pc : Nat) (ta : Option Addr) (tc : Nat) (w : World) (hp : PtsAt w pa f.2.2.1) (ht : TagsAt w ta f.2.2.2) (hl : f.2.2.1.length ≤ 1048576) (hm : f.2.2.2.length ≤ 1048576) (hz : f.2.2.1.length = 0 → f.2.2.2.length = 0) :
    Calls Tryz.prog 53 #[.agg #[.string f.1, .int .i64 f.2.1, .slice pa f.2.2.1.length pc, .slice ta f.2.2.2.length tc]] w fun e w' => ∃ xa xc ya yc, e = .returned (.agg #[.string f.1, .int .i64 f.2.1, .slice xa f.2.2.1.length xc, .slice ya f.2.2.2.length yc]) ∧ GotF w.heap.size w' f xa ya ∧ Below w.heap.size w w' := by
  by_cases h0 : 0 < f.2.2.1.length
  · refine (l2Copy_got f.1 f.2.1 pa pc f.2.2.1 ta tc f.2.2.2 w hp ht hl h0 hm).mono ?_
    rintro e w' ⟨⟨v, rfl, ax, cx, ay, cy, rfl, h1, h2, h3, h4⟩, hb⟩
    exact ⟨ax, cx, ay, cy, rfl, ⟨h1, h2, h3, h4⟩, hb⟩
  · have e0 : f.2.2.1.length = 0 := by omega
    have e1 := hz e0
    rw [e0, e1]
    refine (l2Copy_00 f.1 f.2.1 pa pc ta tc w).mono ?_
    rintro e w' ⟨ax, cx, ay, cy, rfl, hb⟩
    exact ⟨ax, cx, ay, cy, rfl, ⟨fun i hi => by omega, fun i hi => by omega, .inl e0, .inl e1⟩, hb⟩

theorem far11 (w : World) (r o o' : Nat) (v : Value) (h : o ≠ o') : (w.setCell ⟨r, o, none⟩ v).cell? ⟨r, o', none⟩ = w.cell? ⟨r, o', none⟩ := World.cell?_setCell_other w ⟨r, o, none⟩ ⟨r, o', none⟩ v (fun e => h (congrArg Addr.off e))

/-- a box of eleven cells -/
def Box11 (w : World) (r : Nat) (v0 v1 v2 v3 v4 v5 v6 v7 v8 v9 v10 : Value) : Prop := w.cell? ⟨r, 0, none⟩ = some v0 ∧ w.cell? ⟨r, 1, none⟩ = some v1 ∧ w.cell? ⟨r, 2, none⟩ = some v2 ∧ w.cell? ⟨r, 3, none⟩ = some v3 ∧ w.cell? ⟨r, 4, none⟩ = some v4 ∧ w.cell? ⟨r, 5, none⟩ = some v5 ∧ w.cell? ⟨r, 6, none⟩ = some v6 ∧ w.cell? ⟨r, 7, none⟩ = some v7 ∧ w.cell? ⟨r, 8, none⟩ = some v8 ∧ w.cell? ⟨r, 9, none⟩ = some v9 ∧ w.cell? ⟨r, 10, none⟩ = some v10

theorem box11 {w : World} {r : Nat} (v0 v1 v2 v3 v4 v5 v6 v7 v8 v9 v10 : Value) (h : ∀ i, i < 11 → (w.cell? ⟨r, i, none⟩).isSome = true) : Box11 (((((((((((w.setCell ⟨r, 0, none⟩ (v0)).setCell ⟨r, 1, none⟩ (v1)).setCell ⟨r, 2, none⟩ (v2)).setCell ⟨r, 3, none⟩ (v3)).setCell ⟨r, 4, none⟩ (v4)).setCell ⟨r, 5, none⟩ (v5)).setCell ⟨r, 6, none⟩ (v6)).setCell ⟨r, 7, none⟩ (v7)).setCell ⟨r, 8, none⟩ (v8)).setCell ⟨r, 9, none⟩ (v9)).setCell ⟨r, 10, none⟩ (v10)) r v0 v1 v2 v3 v4 v5 v6 v7 v8 v9 v10 := by
  have ex : ∀ i, i < 11 → ∃ u, w.cell? ⟨r, i, none⟩ = some u := fun i hi => Option.isSome_iff_exists.1 (h i hi)
  obtain ⟨u0, s0⟩ := ex 0 (by omega)
  obtain ⟨u1, s1⟩ := ex 1 (by omega)
  obtain ⟨u2, s2⟩ := ex 2 (by omega)
  obtain ⟨u3, s3⟩ := ex 3 (by omega)
  obtain ⟨u4, s4⟩ := ex 4 (by omega)
  obtain ⟨u5, s5⟩ := ex 5 (by omega)
  obtain ⟨u6, s6⟩ := ex 6 (by omega)
  obtain ⟨u7, s7⟩ := ex 7 (by omega)
  obtain ⟨u8, s8⟩ := ex 8 (by omega)
  obtain ⟨u9, s9⟩ := ex 9 (by omega)
  obtain ⟨u10, s10⟩ := ex 10 (by omega)
  refine ⟨?_, ?_, ?_, ?_, ?_, ?_, ?_, ?_, ?_, ?_, ?_⟩
  · rw [far11 _ _ _ _ _ (by omega), far11 _ _ _ _ _ (by omega), far11 _ _ _ _ _ (by omega), far11 _ _ _ _ _ (by omega), far11 _ _ _ _ _ (by omega), far11 _ _ _ _ _ (by omega), far11 _ _ _ _ _ (by omega), far11 _ _ _ _ _ (by omega), far11 _ _ _ _ _ (by omega), far11 _ _ _ _ _ (by omega)]
    exact World.cell?_setCell_same _ _ _ s0
  · rw [far11 _ _ _ _ _ (by omega), far11 _ _ _ _ _ (by omega), far11 _ _ _ _ _ (by omega), far11 _ _ _ _ _ (by omega), far11 _ _ _ _ _ (by omega), far11 _ _ _ _ _ (by omega), far11 _ _ _ _ _ (by omega), far11 _ _ _ _ _ (by omega), far11 _ _ _ _ _ (by omega)]
    exact World.cell?_setCell_same _ _ _ ((far11 _ _ _ _ _ (by omega)).trans s1)
  · rw [far11 _ _ _ _ _ (by omega), far11 _ _ _ _ _ (by omega), far11 _ _ _ _ _ (by omega), far11 _ _ _ _ _ (by omega), far11 _ _ _ _ _ (by omega), far11 _ _ _ _ _ (by omega), far11 _ _ _ _ _ (by omega), far11 _ _ _ _ _ (by omega)]
    exact World.cell?_setCell_same _ _ _ ((far11 _ _ _ _ _ (by omega)).trans ((far11 _ _ _ _ _ (by omega)).trans s2))
  · rw [far11 _ _ _ _ _ (by omega), far11 _ _ _ _ _ (by omega), far11 _ _ _ _ _ (by omega), far11 _ _ _ _ _ (by omega), far11 _ _ _ _ _ (by omega), far11 _ _ _ _ _ (by omega), far11 _ _ _ _ _ (by omega)]
    exact World.cell?_setCell_same _ _ _ ((far11 _ _ _ _ _ (by omega)).trans ((far11 _ _ _ _ _ (by omega)).trans ((far11 _ _ _ _ _ (by omega)).trans s3)))
  · rw [far11 _ _ _ _ _ (by omega), far11 _ _ _ _ _ (by omega), far11 _ _ _ _ _ (by omega), far11 _ _ _ _ _ (by omega), far11 _ _ _ _ _ (by omega), far11 _ _ _ _ _ (by omega)]
    exact World.cell?_setCell_same _ _ _ ((far11 _ _ _ _ _ (by omega)).trans ((far11 _ _ _ _ _ (by omega)).trans ((far11 _ _ _ _ _ (by omega)).trans ((far11 _ _ _ _ _ (by omega)).trans s4))))
  · rw [far11 _ _ _ _ _ (by omega), far11 _ _ _ _ _ (by omega), far11 _ _ _ _ _ (by omega), far11 _ _ _ _ _ (by omega), far11 _ _ _ _ _ (by omega)]
    exact World.cell?_setCell_same _ _ _ ((far11 _ _ _ _ _ (by omega)).trans ((far11 _ _ _ _ _ (by omega)).trans ((far11 _ _ _ _ _ (by omega)).trans ((far11 _ _ _ _ _ (by omega)).trans ((far11 _ _ _ _ _ (by omega)).trans s5)))))
  · rw [far11 _ _ _ _ _ (by omega), far11 _ _ _ _ _ (by omega), far11 _ _ _ _ _ (by omega), far11 _ _ _ _ _ (by omega)]
    exact World.cell?_setCell_same _ _ _ ((far11 _ _ _ _ _ (by omega)).trans ((far11 _ _ _ _ _ (by omega)).trans ((far11 _ _ _ _ _ (by omega)).trans ((far11 _ _ _ _ _ (by omega)).trans ((far11 _ _ _ _ _ (by omega)).trans ((far11 _ _ _ _ _ (by omega)).trans s6))))))
  · rw [far11 _ _ _ _ _ (by omega), far11 _ _ _ _ _ (by omega), far11 _ _ _ _ _ (by omega)]
    exact World.cell?_setCell_same _ _ _ ((far11 _ _ _ _ _ (by omega)).trans ((far11 _ _ _ _ _ (by omega)).trans ((far11 _ _ _ _ _ (by omega)).trans ((far11 _ _ _ _ _ (by omega)).trans ((far11 _ _ _ _ _ (by omega)).trans ((far11 _ _ _ _ _ (by omega)).trans ((far11 _ _ _ _ _ (by omega)).trans s7)))))))
  · rw [far11 _ _ _ _ _ (by omega), far11 _ _ _ _ _ (by omega)]
    exact World.cell?_setCell_same _ _ _ ((far11 _ _ _ _ _ (by omega)).trans ((far11 _ _ _ _ _ (by omega)).trans ((far11 _ _ _ _ _ (by omega)).trans ((far11 _ _ _ _ _ (by omega)).trans ((far11 _ _ _ _ _ (by omega)).trans ((far11 _ _ _ _ _ (by omega)).trans ((far11 _ _ _ _ _ (by omega)).trans ((far11 _ _ _ _ _ (by omega)).trans s8))))))))
  · rw [far11 _ _ _ _ _ (by omega)]
    exact World.cell?_setCell_same _ _ _ ((far11 _ _ _ _ _ (by omega)).trans ((far11 _ _ _ _ _ (by omega)).trans ((far11 _ _ _ _ _ (by omega)).trans ((far11 _ _ _ _ _ (by omega)).trans ((far11 _ _ _ _ _ (by omega)).trans ((far11 _ _ _ _ _ (by omega)).trans ((far11 _ _ _ _ _ (by omega)).trans ((far11 _ _ _ _ _ (by omega)).trans ((far11 _ _ _ _ _ (by omega)).trans s9)))))))))
  · exact World.cell?_setCell_same _ _ _ ((far11 _ _ _ _ _ (by omega)).trans ((far11 _ _ _ _ _ (by omega)).trans ((far11 _ _ _ _ _ (by omega)).trans ((far11 _ _ _ _ _ (by omega)).trans ((far11 _ _ _ _ _ (by omega)).trans ((far11 _ _ _ _ _ (by omega)).trans ((far11 _ _ _ _ _ (by omega)).trans ((far11 _ _ _ _ _ (by omega)).trans ((far11 _ _ _ _ _ (by omega)).trans ((far11 _ _ _ _ _ (by omega)).trans s10))))))))))

/-- what lies in the answer's box, and where its parts lie -/
def CutC (w : World) (i : ByteArray) (h : Bool) (f : Ft) (s : Bool) (g : Ft) (wx : World) : Prop := ∃ xa xc ya yc za zc va vc, Box11 wx (w.heap.size + 1) (.string i) (.bool h) (.string f.1) (.int .i64 f.2.1) (.slice xa f.2.2.1.length xc) (.slice ya f.2.2.2.length yc) (.bool s) (.string g.1) (.int .i64 g.2.1) (.slice za g.2.2.1.length zc) (.slice va g.2.2.2.length vc) ∧ GotF (w.heap.size + 1 + 1) wx f xa ya ∧ GotF (w.heap.size + 1 + 1) wx g za va ∧ Below w.heap.size w wx

theorem turned11 (wy : World) (r : Nat) (v0 v1 v2 v3 v4 v5 v6 v7 v8 v9 v10 : Value) : Turned wy (((((((((((wy.setCell ⟨r, 0, none⟩ (v0)).setCell ⟨r, 1, none⟩ (v1)).setCell ⟨r, 2, none⟩ (v2)).setCell ⟨r, 3, none⟩ (v3)).setCell ⟨r, 4, none⟩ (v4)).setCell ⟨r, 5, none⟩ (v5)).setCell ⟨r, 6, none⟩ (v6)).setCell ⟨r, 7, none⟩ (v7)).setCell ⟨r, 8, none⟩ (v8)).setCell ⟨r, 9, none⟩ (v9)).setCell ⟨r, 10, none⟩ (v10)) (fun x => x = r) :=
  (((((((((((Turned.of_set (S := fun x => x = r) wy _ _ rfl).trans (Turned.of_set _ _ _ rfl)).trans (Turned.of_set _ _ _ rfl)).trans (Turned.of_set _ _ _ rfl)).trans (Turned.of_set _ _ _ rfl)).trans (Turned.of_set _ _ _ rfl)).trans (Turned.of_set _ _ _ rfl)).trans (Turned.of_set _ _ _ rfl)).trans (Turned.of_set _ _ _ rfl)).trans (Turned.of_set _ _ _ rfl)).trans (Turned.of_set _ _ _ rfl))

theorem l4End {w W wy : World} {i : ByteArray} {h : Bool} {f : Ft} {s : Bool} {g : Ft} {xa : Option Addr} {xc : Nat} {ya : Option Addr} {yc : Nat} {za : Option Addr} {zc : Nat} {va : Option Addr} {vc : Nat} (B0 : Below w.heap.size w W) (hz : W.heap.size = w.heap.size + 1 + 1) (hk : Kept1 W (w.heap.size + 1) wy) (h11 : ∀ i, i < 11 → (W.cell? ⟨w.heap.size + 1, i, none⟩).isSome = true)
    (g1 : GotF W.heap.size wy f xa ya) (g2 : GotF W.heap.size wy g za va) : CutC w i h f s g (((((((((((wy.setCell ⟨w.heap.size + 1, 0, none⟩ (.string i)).setCell ⟨w.heap.size + 1, 1, none⟩ (.bool h)).setCell ⟨w.heap.size + 1, 2, none⟩ (.string f.1)).setCell ⟨w.heap.size + 1, 3, none⟩ (.int .i64 f.2.1)).setCell ⟨w.heap.size + 1, 4, none⟩ (.slice xa f.2.2.1.length xc)).setCell ⟨w.heap.size + 1, 5, none⟩ (.slice ya f.2.2.2.length yc)).setCell ⟨w.heap.size + 1, 6, none⟩ (.bool s)).setCell ⟨w.heap.size + 1, 7, none⟩ (.string g.1)).setCell ⟨w.heap.size + 1, 8, none⟩ (.int .i64 g.2.1)).setCell ⟨w.heap.size + 1, 9, none⟩ (.slice za g.2.2.1.length zc)).setCell ⟨w.heap.size + 1, 10, none⟩ (.slice va g.2.2.2.length vc)) := by
  rw [hz] at g1 g2
  have ht := turned11 wy (w.heap.size + 1) (.string i) (.bool h) (.string f.1) (.int .i64 f.2.1) (.slice xa f.2.2.1.length xc) (.slice ya f.2.2.2.length yc) (.bool s) (.string g.1) (.int .i64 g.2.1) (.slice za g.2.2.1.length zc) (.slice va g.2.2.2.length vc)
  exact ⟨xa, xc, ya, yc, za, zc, va, vc, box11 _ _ _ _ _ _ _ _ _ _ _ (fun i hi => hk.some i (h11 i hi)), g1.turned ht fun x h1 _ e => by omega, g2.turned ht fun x h1 _ e => by omega, (hk.under B0).trans (ht.below (hk.under B0).size fun x e => by omega)⟩

set_option maxRecDepth 100000 in
set_option maxHeartbeats 16000000 in
theorem l4Copy_any (i : ByteArray) (h : Bool) (f : Ft) (s : Bool) (g : Ft) (pa : Option Addr) (pc : Nat) (ta : Option Addr) (tc : Nat) (qa : Option Addr) (qc : Nat) (ua : Option Addr) (uc : Nat) (w : World) (hp : PtsAt w pa f.2.2.1) (ht : TagsAt w ta f.2.2.2) (hq : PtsAt w qa g.2.2.1) (hu : TagsAt w ua g.2.2.2) (m1 : f.2.2.1.length ≤ 1048576) (m2 : f.2.2.2.length ≤ 1048576) (m3 : g.2.2.1.length ≤ 1048576) (m4 : g.2.2.2.length ≤ 1048576) (z1 : f.2.2.1.length = 0 → f.2.2.2.length = 0) (z2 : g.2.2.1.length = 0 → g.2.2.2.length = 0) :
    Calls Tryz.prog 49 #[.agg #[.string i, .bool h, .string f.1, .int .i64 f.2.1, .slice pa f.2.2.1.length pc, .slice ta f.2.2.2.length tc, .bool s, .string g.1, .int .i64 g.2.1, .slice qa g.2.2.1.length qc, .slice ua g.2.2.2.length uc]] w fun e w' => ∃ xa xc ya yc za zc va vc, e = .returned (.agg #[.string i, .bool h, .string f.1, .int .i64 f.2.1, .slice xa f.2.2.1.length xc, .slice ya f.2.2.2.length yc, .bool s, .string g.1, .int .i64 g.2.1, .slice za g.2.2.1.length zc, .slice va g.2.2.2.length vc]) ∧ GotF w.heap.size w' f xa ya ∧ GotF w.heap.size w' g za va ∧ Below w.heap.size w w' := by
  have KW : Hid (∀ u, Below w.heap.size w u → Calls Tryz.prog 53 #[.agg #[.string f.1, .int .i64 f.2.1, .slice pa f.2.2.1.length pc, .slice ta f.2.2.2.length tc]] u fun e w' => ∃ xa xc ya yc, e = .returned (.agg #[.string f.1, .int .i64 f.2.1, .slice xa f.2.2.1.length xc, .slice ya f.2.2.2.length yc]) ∧ GotF u.heap.size w' f xa ya ∧ Below u.heap.size u w') := fun u hb => l2Copy_side f pa pc ta tc u (hp.below hb) (ht.below hb) m1 m2 z1
  have KN : Hid (∀ u, Below w.heap.size w u → Calls Tryz.prog 53 #[.agg #[.string g.1, .int .i64 g.2.1, .slice qa g.2.2.1.length qc, .slice ua g.2.2.2.length uc]] u fun e w' => ∃ xa xc ya yc, e = .returned (.agg #[.string g.1, .int .i64 g.2.1, .slice xa g.2.2.1.length xc, .slice ya g.2.2.2.length yc]) ∧ GotF u.heap.size w' g xa ya ∧ Below u.heap.size u w') := fun u hb => l2Copy_side g qa qc ua uc u (hq.below hb) (hu.below hb) m3 m4 z2
  clear hp ht hq hu m1 m2 m3 m4 z1 z2
  go_enter Tryz.func49, Tryz.ntmps49
  go_upto_region 1 with (fail)
  obtain ⟨W, hW⟩ : ∃ W, W = ((w.alloc (.cells #[.string i, .bool h, .string f.1, .int .i64 f.2.1, .slice pa f.2.2.1.length pc, .slice ta f.2.2.2.length tc, .bool s, .string g.1, .int .i64 g.2.1, .slice qa g.2.2.1.length qc, .slice ua g.2.2.2.length uc] 65)).alloc (.cells #[.string ⟨#[]⟩, .bool false, .string ⟨#[]⟩, .int .i64 0, .slice none 0 0, .slice none 0 0, .bool false, .string ⟨#[]⟩, .int .i64 0, .slice none 0 0, .slice none 0 0] 65)) := ⟨_, rfl⟩
  have B0 : Hid (Below w.heap.size w W) := by rw [hW]; exact ((Below.refl _ _).alloc (Nat.le_refl _) _).alloc (by simp) _
  have hz : Hid (W.heap.size = w.heap.size + 1 + 1) := by show _ = _; rw [hW]; simp
  have SOF : Hid (∀ wy, Kept1 W (w.heap.size + 1) wy → wy.cell? ⟨w.heap.size, 0, none⟩ = some (.string i) ∧ wy.cell? ⟨w.heap.size, 1, none⟩ = some (.bool h) ∧ wy.cell? ⟨w.heap.size, 2, none⟩ = some (.string f.1) ∧ wy.cell? ⟨w.heap.size, 3, none⟩ = some (.int .i64 f.2.1) ∧ wy.cell? ⟨w.heap.size, 4, none⟩ = some (.slice pa f.2.2.1.length pc) ∧ wy.cell? ⟨w.heap.size, 5, none⟩ = some (.slice ta f.2.2.2.length tc) ∧ wy.cell? ⟨w.heap.size, 6, none⟩ = some (.bool s) ∧ wy.cell? ⟨w.heap.size, 7, none⟩ = some (.string g.1) ∧ wy.cell? ⟨w.heap.size, 8, none⟩ = some (.int .i64 g.2.1) ∧ wy.cell? ⟨w.heap.size, 9, none⟩ = some (.slice qa g.2.2.1.length qc) ∧ wy.cell? ⟨w.heap.size, 10, none⟩ = some (.slice ua g.2.2.2.length uc) ∧ wy.cell? ⟨(w.heap.size + 1), 0, none⟩ = some (cellOf wy (w.heap.size + 1) 0) ∧ wy.cell? ⟨(w.heap.size + 1), 1, none⟩ = some (cellOf wy (w.heap.size + 1) 1) ∧ wy.cell? ⟨(w.heap.size + 1), 2, none⟩ = some (cellOf wy (w.heap.size + 1) 2) ∧ wy.cell? ⟨(w.heap.size + 1), 3, none⟩ = some (cellOf wy (w.heap.size + 1) 3) ∧ wy.cell? ⟨(w.heap.size + 1), 4, none⟩ = some (cellOf wy (w.heap.size + 1) 4) ∧ wy.cell? ⟨(w.heap.size + 1), 5, none⟩ = some (cellOf wy (w.heap.size + 1) 5) ∧ wy.cell? ⟨(w.heap.size + 1), 6, none⟩ = some (cellOf wy (w.heap.size + 1) 6) ∧ wy.cell? ⟨(w.heap.size + 1), 7, none⟩ = some (cellOf wy (w.heap.size + 1) 7) ∧ wy.cell? ⟨(w.heap.size + 1), 8, none⟩ = some (cellOf wy (w.heap.size + 1) 8) ∧ wy.cell? ⟨(w.heap.size + 1), 9, none⟩ = some (cellOf wy (w.heap.size + 1) 9) ∧ wy.cell? ⟨(w.heap.size + 1), 10, none⟩ = some (cellOf wy (w.heap.size + 1) 10) ∧ wy.frozen? ⟨(w.heap.size + 1), 0, none⟩ = false ∧ wy.frozen? ⟨(w.heap.size + 1), 1, none⟩ = false ∧ wy.frozen? ⟨(w.heap.size + 1), 2, none⟩ = false ∧ wy.frozen? ⟨(w.heap.size + 1), 3, none⟩ = false ∧ wy.frozen? ⟨(w.heap.size + 1), 4, none⟩ = false ∧ wy.frozen? ⟨(w.heap.size + 1), 5, none⟩ = false ∧ wy.frozen? ⟨(w.heap.size + 1), 6, none⟩ = false ∧ wy.frozen? ⟨(w.heap.size + 1), 7, none⟩ = false ∧ wy.frozen? ⟨(w.heap.size + 1), 8, none⟩ = false ∧ wy.frozen? ⟨(w.heap.size + 1), 9, none⟩ = false ∧ wy.frozen? ⟨(w.heap.size + 1), 10, none⟩ = false ∧ Kept1 W (w.heap.size + 1) wy) := by
    intro wy hb
    have hz := hz.out
    have hc : ∀ o, wy.cell? ⟨w.heap.size, o, none⟩ = W.cell? ⟨w.heap.size, o, none⟩ := fun o => hb.grown.cell_far ⟨w.heap.size, o, none⟩ (by show w.heap.size < _; omega) (by simp)
    have hf : ∀ o, wy.frozen? ⟨w.heap.size + 1, o, none⟩ = W.frozen? ⟨w.heap.size + 1, o, none⟩ := fun o => hb.soft _ (by show w.heap.size + 1 < _; omega)
    refine ⟨?_, ?_, ?_, ?_, ?_, ?_, ?_, ?_, ?_, ?_, ?_, cellOf_some (hb.some _ ?_), cellOf_some (hb.some _ ?_), cellOf_some (hb.some _ ?_), cellOf_some (hb.some _ ?_), cellOf_some (hb.some _ ?_), cellOf_some (hb.some _ ?_), cellOf_some (hb.some _ ?_), cellOf_some (hb.some _ ?_), cellOf_some (hb.some _ ?_), cellOf_some (hb.some _ ?_), cellOf_some (hb.some _ ?_), ?_, ?_, ?_, ?_, ?_, ?_, ?_, ?_, ?_, ?_, ?_, hb⟩
    all_goals first | rw [hc, hW] | rw [hf, hW] | rw [hW]
    all_goals simp [go_sem]
  have zR : Hid (w.heap.size + 1 < W.heap.size) := by have := hz.out; show _ < _; omega
  have H11 : Hid (∀ i, i < 11 → (W.cell? ⟨w.heap.size + 1, i, none⟩).isSome = true) := by
    intro i hi
    rw [hW]
    rcases i with _ | _ | _ | _ | _ | _ | _ | _ | _ | _ | _ | i <;> first | (simp [go_sem]; done) | omega
  rw [← hW]
  have m1 : ¬ w.heap.size = W.heap.size := by have := hz.out; omega
  have m2 : ¬ w.heap.size + 1 = W.heap.size := by have := hz.out; omega
  clear hW
  go_cut [15] (fun s15 wx => CutC w i h f s g wx)
  case first =>
    go_region_held3 (fun wy => wy.cell? ⟨w.heap.size, 0, none⟩ = some (.string i) ∧ wy.cell? ⟨w.heap.size, 1, none⟩ = some (.bool h) ∧ wy.cell? ⟨w.heap.size, 2, none⟩ = some (.string f.1) ∧ wy.cell? ⟨w.heap.size, 3, none⟩ = some (.int .i64 f.2.1) ∧ wy.cell? ⟨w.heap.size, 4, none⟩ = some (.slice pa f.2.2.1.length pc) ∧ wy.cell? ⟨w.heap.size, 5, none⟩ = some (.slice ta f.2.2.2.length tc) ∧ wy.cell? ⟨w.heap.size, 6, none⟩ = some (.bool s) ∧ wy.cell? ⟨w.heap.size, 7, none⟩ = some (.string g.1) ∧ wy.cell? ⟨w.heap.size, 8, none⟩ = some (.int .i64 g.2.1) ∧ wy.cell? ⟨w.heap.size, 9, none⟩ = some (.slice qa g.2.2.1.length qc) ∧ wy.cell? ⟨w.heap.size, 10, none⟩ = some (.slice ua g.2.2.2.length uc) ∧ wy.cell? ⟨(w.heap.size + 1), 0, none⟩ = some (cellOf wy (w.heap.size + 1) 0) ∧ wy.cell? ⟨(w.heap.size + 1), 1, none⟩ = some (cellOf wy (w.heap.size + 1) 1) ∧ wy.cell? ⟨(w.heap.size + 1), 2, none⟩ = some (cellOf wy (w.heap.size + 1) 2) ∧ wy.cell? ⟨(w.heap.size + 1), 3, none⟩ = some (cellOf wy (w.heap.size + 1) 3) ∧ wy.cell? ⟨(w.heap.size + 1), 4, none⟩ = some (cellOf wy (w.heap.size + 1) 4) ∧ wy.cell? ⟨(w.heap.size + 1), 5, none⟩ = some (cellOf wy (w.heap.size + 1) 5) ∧ wy.cell? ⟨(w.heap.size + 1), 6, none⟩ = some (cellOf wy (w.heap.size + 1) 6) ∧ wy.cell? ⟨(w.heap.size + 1), 7, none⟩ = some (cellOf wy (w.heap.size + 1) 7) ∧ wy.cell? ⟨(w.heap.size + 1), 8, none⟩ = some (cellOf wy (w.heap.size + 1) 8) ∧ wy.cell? ⟨(w.heap.size + 1), 9, none⟩ = some (cellOf wy (w.heap.size + 1) 9) ∧ wy.cell? ⟨(w.heap.size + 1), 10, none⟩ = some (cellOf wy (w.heap.size + 1) 10) ∧ wy.frozen? ⟨(w.heap.size + 1), 0, none⟩ = false ∧ wy.frozen? ⟨(w.heap.size + 1), 1, none⟩ = false ∧ wy.frozen? ⟨(w.heap.size + 1), 2, none⟩ = false ∧ wy.frozen? ⟨(w.heap.size + 1), 3, none⟩ = false ∧ wy.frozen? ⟨(w.heap.size + 1), 4, none⟩ = false ∧ wy.frozen? ⟨(w.heap.size + 1), 5, none⟩ = false ∧ wy.frozen? ⟨(w.heap.size + 1), 6, none⟩ = false ∧ wy.frozen? ⟨(w.heap.size + 1), 7, none⟩ = false ∧ wy.frozen? ⟨(w.heap.size + 1), 8, none⟩ = false ∧ wy.frozen? ⟨(w.heap.size + 1), 9, none⟩ = false ∧ wy.frozen? ⟨(w.heap.size + 1), 10, none⟩ = false ∧ Kept1 W (w.heap.size + 1) wy)
      (first
        | with_reducible assumption
        | with_reducible exact SOF.out _ (Kept1.refl zR.out).drew
        | (go_split_ands
           rename_i hS
           with_reducible exact SOF.out _ (hS.below hbW))
        | (go_split_ands
           rename_i hS
           with_reducible exact SOF.out _ (hS.below hbN))
        | (go_split_ands
           rename_i hS
           with_reducible exact SOF.out _ (((((((((((hS.set _ _).set _ _).set _ _).set _ _).set _ _).set _ _).set _ _).set _ _).set _ _).set _ _).set _ _)))
      (first
        | (go_at_call 53
           with_reducible refine (KW.out _ ?_).mono ?_
           · (go_split_ands; rename_i hS; exact hS.under B0.out)
           rintro e wW ⟨xa, xc, ya, yc, rfl, gW, hbW⟩)
        | (go_at_call 53
           with_reducible refine (KN.out _ ?_).mono ?_
           · (go_split_ands; rename_i hS; exact hS.under B0.out)
           rintro e wN ⟨za, zc, va, vc, rfl, gN, hbN⟩))
    all_goals (go_wp2_with fail; go_meet; first | exact l4End B0.out hz.out ((keptA hbW zR.out).below hbN) H11.out ((gW.mono (Nat.le_refl W.heap.size)).below hbN) (gN.mono hbW.size) | exact l4End B0.out hz.out ((keptA hbN zR.out).below hbW) H11.out (gW.mono hbN.size) ((gN.mono (Nat.le_refl W.heap.size)).below hbW))
  case rest =>
    obtain ⟨xa, xc, ya, yc, za, zc, va, vc, ⟨r0, r1, r2, r3, r4, r5, r6, r7, r8, r9, r10⟩, hQ1, hQ2, hB⟩ := hcut
    have B := Lib.hid hB
    have Q1 := Lib.hid hQ1
    have Q2 := Lib.hid hQ2
    clear hQ1 hQ2 hB
    go_wp2
    refine bodyPost_ret (v := .agg #[.string i, .bool h, .string f.1, .int .i64 f.2.1, .slice xa f.2.2.1.length xc, .slice ya f.2.2.2.length yc, .bool s, .string g.1, .int .i64 g.2.1, .slice za g.2.2.1.length zc, .slice va g.2.2.2.length vc]) (by simp [results, Tryz.results49, go_sem, r0, r1, r2, r3, r4, r5, r6, r7, r8, r9, r10]) rfl ?_
    exact ⟨xa, xc, ya, yc, za, zc, va, vc, rfl, Q1.out.mono (by omega), Q2.out.mono (by omega), B.out⟩
end Go.Proofs.YtelimcknhaflfaaGreat

namespace Go.Proofs.YtelimcknhaflfaaGreat
set_option linter.unusedVariables false
open Go.ChangeShapes Go.WideShapes Go.ChangeAt Go.RowKit

theorem side_pos {i : ByteArray} {h : Bool} {f : Ft} (hs : sideGood i h f = true) : f.2.2.1.length = 0 → f.2.2.2.length = 0 := by
  intro h0
  unfold sideGood at hs
  cases h
  · simp only [ftEq, decide_eq_true_eq, Bool.false_eq_true, if_false] at hs
    rw [hs]
    rfl
  · simp only [ftGood, featOk, shapeOk, kindHolds, h0, if_true, Bool.and_eq_true] at hs
    obtain ⟨⟨⟨_, ⟨_, hk⟩, _⟩, _⟩, _⟩ := hs
    split at hk
    · simp at hk
    · split at hk
      · simp at hk
      · split at hk <;> simp at hk

theorem good_sides {ds : List Ch} (h : diffOk ds = true) {j : Nat} (hj : j < ds.length) : sideGood (cid ds j) (chd ds j) (cwf ds j) = true ∧ sideGood (cid ds j) (chs ds j) (cnf ds j) = true := by
  have h1 : chsGood ds = true := by
    unfold diffOk at h
    rw [Bool.and_eq_true] at h
    exact h.1
  have h2 := chsGood_at h1 hj
  unfold chGood chOkAt chOk at h2
  simp only [Bool.and_eq_true] at h2
  exact ⟨h2.1.2.1, h2.1.2.2.1⟩

/-- one part's length -/
def plen (c : Ch) : Nat → Nat
  | 0 => c.2.2.1.2.2.1.length
  | 1 => c.2.2.1.2.2.2.length
  | 2 => c.2.2.2.2.2.2.1.length
  | _ => c.2.2.2.2.2.2.2.length

theorem GotF.turned2 {lo : Nat} {w w' : World} {f : Ft} {xa ya : Option Addr} {S : Nat → Prop} (h : GotF lo w f xa ya) (ht : Turned w w' S) (h1 : f.2.2.1.length = 0 ∨ ∀ x, blk xa = some x → ¬ S x) (h2 : f.2.2.2.length = 0 ∨ ∀ x, blk ya = some x → ¬ S x) : GotF lo w' f xa ya := by
  obtain ⟨q1, q2, q3, q4⟩ := h
  refine ⟨?_, ?_, q3.imp id fun q x hx => ⟨(q x hx).1, Nat.lt_of_lt_of_le (q x hx).2 ht.size⟩, q4.imp id fun q x hx => ⟨(q x hx).1, Nat.lt_of_lt_of_le (q x hx).2 ht.size⟩⟩
  · rcases h1 with e | q
    · intro i hi
      omega
    · exact q1.turned ht q
  · rcases h2 with e | q
    · intro i hi
      omega
    · exact q2.turned ht q

/-- a list of changes that the model builds -/
structure RowC (w : World) (lo : Nat) (v : Value) (k : Nat) (ds : List Ch) (ad : Nat → PlC) : Prop where
  row : w.ownsRow lo 65 11 v k (flatC ds ad k)
  was : ∀ i, i < k → GotF lo w (cwf ds i) (ad i 0).1 (ad i 1).1
  now : ∀ i, i < k → GotF lo w (cnf ds i) (ad i 2).1 (ad i 3).1
  off : ∀ i, i < k → ∀ r, r < 4 → plen (cg ds i) r = 0 ∨ ∀ x, blk (ad i r).1 = some x → v.ownBlock ≠ some x

theorem rowC_none {w : World} {lo : Nat} {v : Value} {ds : List Ch} (ad : Nat → PlC) (h : w.ownsRow lo 65 11 v 0 []) : RowC w lo v 0 ds ad :=
  ⟨h, fun _ h => absurd h (Nat.not_lt_zero _), fun _ h => absurd h (Nat.not_lt_zero _), fun _ h => absurd h (Nat.not_lt_zero _)⟩

theorem RowC.below {w w' : World} {lo : Nat} {v : Value} {k : Nat} {ds : List Ch} {ad : Nat → PlC} (h : RowC w lo v k ds ad) (hb : Below w.heap.size w w') : RowC w' lo v k ds ad :=
  ⟨ownsRow_below h.row hb, fun i hi => (h.was i hi).below hb, fun i hi => (h.now i hi).below hb, h.off⟩

theorem gotF_off {lo : Nat} {w : World} {f : Ft} {xa ya : Option Addr} {N : Nat → Prop} (h : GotF lo w f xa ya) (hn : ∀ x, lo ≤ x → x < w.heap.size → ¬ N x) : (f.2.2.1.length = 0 ∨ ∀ x, blk xa = some x → ¬ N x) ∧ (f.2.2.2.length = 0 ∨ ∀ x, blk ya = some x → ¬ N x) :=
  ⟨h.2.2.1.imp id fun q x hx => hn x (q x hx).1 (q x hx).2, h.2.2.2.imp id fun q x hx => hn x (q x hx).1 (q x hx).2⟩

/-- one more change, appended -/
theorem RowC.step {wr w3 wb wa : World} {lo : Nat} {v : Value} {k : Nat} {ds : List Ch} {ad : Nat → PlC} {p : PlC} {gg cap' : Nat} (h : RowC wr lo v k ds ad) (hlo : lo ≤ wr.heap.size) (hb : Below wr.heap.size wr w3) (h3 : Below w3.heap.size w3 wb)
    (g1 : GotF wr.heap.size w3 (cwf ds k) (p 0).1 (p 1).1) (g2 : GotF wr.heap.size w3 (cnf ds k) (p 2).1 (p 3).1)
    (hrow : wa.ownsRow lo 65 11 (.slice (some ⟨gg, 0, none⟩) (k + 1) cap') (k + 1) (flatC ds ad k ++ cellsC (cg ds k) p)) (hg : wb.grownBy wa v.ownBlock) (hat : v.ownBlock = some gg ∨ w3.heap.size ≤ gg) :
    RowC wa lo (.slice (some ⟨gg, 0, none⟩) (k + 1) cap') (k + 1) ds (plSetC ad k p) := by
  have hbb : Below wr.heap.size wr wb := hb.trans (h3.mono hb.size)
  have hB := h.below hbb
  have hvl : ∀ x, v.ownBlock = some x → x < wr.heap.size := fun x hx => (h.row.lt x hx).2
  have ht' : Turned wb wa (fun x => v.ownBlock = some x) := Turned.of_grown hg fun x hx => hx
  have h3z := h3.size
  have hs3 := hb.size
  have gne : ∀ x, x < w3.heap.size → ¬ v.ownBlock = some x → ¬ gg = x := fun x hx hn e => by
    rcases hat with h1 | h1
    · exact hn (by rw [h1, e])
    · omega
  have own' : ∀ x, (Value.slice (some ⟨gg, 0, none⟩) (k + 1) cap').ownBlock = some x → gg = x := fun x hx => by simpa [Value.ownBlock] using hx
  have o1 := gotF_off (N := fun x => v.ownBlock = some x) g1 fun x hx _ e => by have := hvl x e; omega
  have o2 := gotF_off (N := fun x => v.ownBlock = some x) g2 fun x hx _ e => by have := hvl x e; omega
  have n1 := gotF_off (N := fun x => gg = x) g1 fun x hx hx2 => gne x hx2 fun e => by have := hvl x e; omega
  have n2 := gotF_off (N := fun x => gg = x) g2 fun x hx hx2 => gne x hx2 fun e => by have := hvl x e; omega
  refine ⟨?_, fun i hi => ?_, fun i hi => ?_, fun i hi r hr => ?_⟩
  · rw [flatC_succ, flatC_set _ _ _ _ _ (Nat.le_refl _), plSetC_at]
    exact hrow
  · by_cases e : i = k
    · subst e
      rw [plSetC_at]
      exact ((g1.below h3).turned2 ht' o1.1 o1.2).mono hlo
    · rw [plSetC_lt (by omega)]
      exact (hB.was i (by omega)).turned2 ht' (h.off i (by omega) 0 (by omega)) (h.off i (by omega) 1 (by omega))
  · by_cases e : i = k
    · subst e
      rw [plSetC_at]
      exact ((g2.below h3).turned2 ht' o2.1 o2.2).mono hlo
    · rw [plSetC_lt (by omega)]
      exact (hB.now i (by omega)).turned2 ht' (h.off i (by omega) 2 (by omega)) (h.off i (by omega) 3 (by omega))
  · by_cases e : i = k
    · subst e
      rw [plSetC_at]
      rcases r with _ | _ | _ | _ | r
      · exact n1.1.imp id fun q x hx e => q x hx (own' x e)
      · exact n1.2.imp id fun q x hx e => q x hx (own' x e)
      · exact n2.1.imp id fun q x hx e => q x hx (own' x e)
      · exact n2.2.imp id fun q x hx e => q x hx (own' x e)
      · omega
    · rw [plSetC_lt (by omega)]
      have q := h.off i (by omega) r hr
      have q2 : plen (cg ds i) r = 0 ∨ ∀ x, blk (ad i r).1 = some x → x < w3.heap.size := by
        have w1 := (h.was i (by omega)).2.2
        have w2 := (h.now i (by omega)).2.2
        rcases r with _ | _ | _ | _ | r
        · exact w1.1.imp id fun q x hx => Nat.lt_of_lt_of_le (q x hx).2 hs3
        · exact w1.2.imp id fun q x hx => Nat.lt_of_lt_of_le (q x hx).2 hs3
        · exact w2.1.imp id fun q x hx => Nat.lt_of_lt_of_le (q x hx).2 hs3
        · exact w2.2.imp id fun q x hx => Nat.lt_of_lt_of_le (q x hx).2 hs3
        · omega
      rcases q with q | q
      · exact .inl q
      · rcases q2 with q2 | q2
        · exact .inl q2
        · exact .inr fun x hx e => gne x (q2 x hx) (q x hx) (own' x e)

/-- a list of changes that lies in these blocks -/
def GotC (lo hi : Nat) (w : World) (a : Option Addr) (ds : List Ch) : Prop :=
  ChangesAt w a ds ∧ ∀ i, i < ds.length → ∃ b off pa pc ta tc qa qc ua uc, a = some ⟨b, off, none⟩ ∧ lo ≤ b ∧ b < hi ∧ ChAt w b (off + i * 11) (cid ds i) (chd ds i) (cwf ds i) (chs ds i) (cnf ds i) pa pc ta tc qa qc ua uc ∧
    (plen (cg ds i) 0 = 0 ∨ ∀ x, blk pa = some x → lo ≤ x ∧ x < hi) ∧ (plen (cg ds i) 1 = 0 ∨ ∀ x, blk ta = some x → lo ≤ x ∧ x < hi) ∧ (plen (cg ds i) 2 = 0 ∨ ∀ x, blk qa = some x → lo ≤ x ∧ x < hi) ∧ (plen (cg ds i) 3 = 0 ∨ ∀ x, blk ua = some x → lo ≤ x ∧ x < hi)

theorem gotC_nil (lo hi : Nat) (w : World) (a : Option Addr) : GotC lo hi w a [] := ⟨ChangesAt.nil _ _, fun _ h => absurd h (Nat.not_lt_zero _)⟩

theorem GotC.turned {lo hi : Nat} {w w' : World} {a : Option Addr} {ds : List Ch} {S : Nat → Prop} (h : GotC lo hi w a ds) (ht : Turned w w' S) (hS : ∀ x, lo ≤ x → x < hi → ¬ S x) : GotC lo hi w' a ds := by
  have key : ∀ i, i < ds.length → ∃ b off pa pc ta tc qa qc ua uc, a = some ⟨b, off, none⟩ ∧ lo ≤ b ∧ b < hi ∧ ChAt w' b (off + i * 11) (cid ds i) (chd ds i) (cwf ds i) (chs ds i) (cnf ds i) pa pc ta tc qa qc ua uc ∧
    (plen (cg ds i) 0 = 0 ∨ ∀ x, blk pa = some x → lo ≤ x ∧ x < hi) ∧ (plen (cg ds i) 1 = 0 ∨ ∀ x, blk ta = some x → lo ≤ x ∧ x < hi) ∧ (plen (cg ds i) 2 = 0 ∨ ∀ x, blk qa = some x → lo ≤ x ∧ x < hi) ∧ (plen (cg ds i) 3 = 0 ∨ ∀ x, blk ua = some x → lo ≤ x ∧ x < hi) := by
    intro i hlt
    obtain ⟨b, off, pa, pc, ta, tc, qa, qc, ua, uc, rfl, h1, h2, x, r1, r2, r3, r4⟩ := h.2 i hlt
    have nb := hS b h1 h2
    have pp : ∀ {q : Option Addr} {ps : List (Int × Int)}, PtsAt w q ps → (ps.length = 0 ∨ ∀ x, blk q = some x → lo ≤ x ∧ x < hi) → PtsAt w' q ps := fun hp hr => by
      rcases hr with e | e
      · intro i hi
        omega
      · exact hp.turned ht fun x hx => hS x (e x hx).1 (e x hx).2
    have tt : ∀ {q : Option Addr} {ts : List Tg}, TagsAt w q ts → (ts.length = 0 ∨ ∀ x, blk q = some x → lo ≤ x ∧ x < hi) → TagsAt w' q ts := fun hp hr => by
      rcases hr with e | e
      · intro i hi
        omega
      · exact hp.turned ht fun x hx => hS x (e x hx).1 (e x hx).2
    exact ⟨b, off, pa, pc, ta, tc, qa, qc, ua, uc, rfl, h1, h2, ⟨Nat.lt_of_lt_of_le x.lt ht.size, ht.cell x.c0 nb, ht.cell x.c1 nb, ht.cell x.c2 nb, ht.cell x.c3 nb, ht.cell x.c4 nb, ht.cell x.c5 nb, ht.cell x.c6 nb, ht.cell x.c7 nb, ht.cell x.c8 nb, ht.cell x.c9 nb, ht.cell x.c10 nb, pp x.pts r1, tt x.tags r2, pp x.qts r3, tt x.uags r4⟩, r1, r2, r3, r4⟩
  refine ⟨fun i hi => ?_, key⟩
  obtain ⟨b, off, pa, pc, ta, tc, qa, qc, ua, uc, e, _, _, x, _⟩ := key i hi
  exact ⟨b, off, pa, pc, ta, tc, qa, qc, ua, uc, e, x⟩

theorem GotC.below {lo hi : Nat} {w w' : World} {a : Option Addr} {ds : List Ch} (h : GotC lo hi w a ds) (hb : Below w.heap.size w w') : GotC lo hi w' a ds := h.turned (S := fun _ => False) (Turned.of_below hb) fun _ _ _ h => h

theorem RowC.got {w : World} {lo : Nat} {v : Value} {ds : List Ch} {ad : Nat → PlC} (h : RowC w lo v ds.length ds ad) : ∃ a cap, v = .slice a ds.length cap ∧ GotC lo w.heap.size w a ds := by
  obtain ⟨h1, ⟨h2, h3⟩ | ⟨b, cap2, cur, rfl, hb, hg, hc, hm, hs, hx⟩⟩ := h.row
  · obtain rfl := List.eq_nil_of_length_eq_zero h3
    exact ⟨none, 0, h2, gotC_nil _ _ _ _⟩
  · have hlt : b < w.heap.size := (Array.getElem?_eq_some_iff.1 hg).1
    have cell : ∀ j v, j < ds.length * 11 → (flatC ds ad ds.length)[j]? = some v → w.cell? ⟨b, 0 + j, none⟩ = some v := by
      intro j v hj hv
      rw [← hx, List.getElem?_take, if_pos hj] at hv
      simp only [World.cell?, hg, Option.isSome_none, Bool.false_eq_true, if_false, Nat.zero_add]
      simpa using hv
    have key : ∀ i, i < ds.length → ChAt w b (0 + i * 11) (cid ds i) (chd ds i) (cwf ds i) (chs ds i) (cnf ds i) (ad i 0).1 (ad i 0).2 (ad i 1).1 (ad i 1).2 (ad i 2).1 (ad i 2).2 (ad i 3).1 (ad i 3).2 := fun i hi => by
      have f : ∀ r, r < 11 → w.cell? ⟨b, 0 + i * 11 + r, none⟩ = some (chv (cg ds i) (ad i) r) := fun r hr => by
        have := cell (i * 11 + r) _ (by omega) (flatC_at ds ad ds.length i r hi hr)
        rwa [← Nat.add_assoc] at this
      exact ⟨hlt, f 0 (by omega), f 1 (by omega), f 2 (by omega), f 3 (by omega), f 4 (by omega), f 5 (by omega), f 6 (by omega), f 7 (by omega), f 8 (by omega), f 9 (by omega), f 10 (by omega), (h.was i hi).1, (h.was i hi).2.1, (h.now i hi).1, (h.now i hi).2.1⟩
    exact ⟨some ⟨b, 0, none⟩, cap2, rfl, fun i hi => ⟨b, 0, _, _, _, _, _, _, _, _, rfl, key i hi⟩, fun i hi => ⟨b, 0, _, _, _, _, _, _, _, _, rfl, hb, hlt, key i hi, (h.was i hi).2.2.1, (h.was i hi).2.2.2, (h.now i hi).2.2.1, (h.now i hi).2.2.2⟩⟩

/-- what turns a change back -/
def backC (c : Ch) : Ch := (c.1, c.2.2.2.1, c.2.2.2.2, c.2.1, c.2.2.1)
/-- what turns changes back -/
def backL (ds : List Ch) : List Ch := ds.map backC
def backR (ds : List Ch) : List Ch := if diffOk ds then backL ds else []

theorem backL_len (ds : List Ch) : (backL ds).length = ds.length := by simp [backL]
theorem cg_backL {ds : List Ch} {i : Nat} (h : i < ds.length) : cg (backL ds) i = backC (cg ds i) := by simp [cg, backL, h]
theorem backR_len (ds : List Ch) : (backR ds).length ≤ ds.length := by
  unfold backR
  split
  · rw [backL_len]
    omega
  · exact Nat.zero_le _
theorem backR_lens {ds : List Ch} {m : Int} (h : ChLen ds m) : ChLen (backR ds) m := by
  unfold backR
  split
  · intro j hj
    rw [backL_len] at hj
    have := h j hj
    unfold cid cwf cnf at this ⊢
    rw [cg_backL hj]
    exact ⟨this.1, this.2.2, this.2.1⟩
  · exact fun j hj => absurd hj (Nat.not_lt_zero _)
end Go.Proofs.YtelimcknhaflfaaGreat

namespace Go.Proofs.YtelimcknhaflfaaGreat
set_option linter.unusedVariables false
open Go.ChangeShapes Go.WideShapes Go.ChangeAt Go.RowKit Go.Maps

/-- the thing of a name, if there is one -/
def sideOf (t : List Ft) (id : ByteArray) : Bool × Ft := match t.find? (fun x => decide (x.1 = id)) with | some f => (true, f) | none => (false, zft)
/-- a change turns a list -/
def oneT (t : List Ft) (c : Ch) : List Ft := if c.2.2.2.1 then putL t c.2.2.2.2 else cutL t c.1
/-- the first changes turn a list -/
def turnTo (fs : List Ft) (ds : List Ch) : Nat → List Ft
  | 0 => fs
  | k + 1 => oneT (turnTo fs ds k) (cg ds k)
/-- what was is there -/
def fits (t : List Ft) (c : Ch) : Bool := (sideOf t c.1).1 == c.2.1 && ftEq (sideOf t c.1).2 c.2.2.1

theorem sideOf_nil (id : ByteArray) : sideOf [] id = (false, zft) := rfl
theorem sideOf_cons (u : Ft) (us : List Ft) (id : ByteArray) : sideOf (u :: us) id = if u.1 = id then (true, u) else sideOf us id := by
  unfold sideOf
  rw [List.find?_cons]
  by_cases h : u.1 = id <;> simp [h]

theorem sideOf_cut {id id' : ByteArray} (h : id' ≠ id) : ∀ t : List Ft, sideOf (cutL t id') id = sideOf t id
  | [] => rfl
  | u :: us => by
    have ih := sideOf_cut h us
    unfold cutL at ih ⊢
    rw [List.filter_cons]
    by_cases e : u.1 = id'
    · rw [if_neg (by simp [e]), ih, sideOf_cons, if_neg (by rw [e]; exact h)]
    · rw [if_pos (by simp [e]), sideOf_cons, sideOf_cons, ih]

theorem filter_cut (t : Ft) (us : List Ft) : us.filter (fun s => decide (kf s ≠ kf t)) = cutL us t.1 := by
  unfold cutL
  refine List.filter_congr fun x _ => ?_
  have : (kf x ≠ kf t) ↔ (x.1 ≠ t.1) := by
    constructor
    · intro h e
      exact h (by unfold kf; rw [e])
    · intro h e
      refine h ?_
      rw [← toList_inj, ByteArray.toList_eq, ByteArray.toList_eq]
      exact e
  exact decide_eq_decide.2 this

theorem sideOf_put {f : Ft} {id : ByteArray} (h : f.1 ≠ id) : ∀ t : List Ft, sideOf (putL t f) id = sideOf t id
  | [] => by
    unfold putL
    rw [sideOf_cons, if_neg h]
  | u :: us => by
    unfold putL
    split
    · rw [filter_cut, sideOf_cons, if_neg h, sideOf_cut h]
    · rw [sideOf_cons, sideOf_cons, sideOf_put h us]

theorem sideOf_first {fs : List Ft} {id : ByteArray} : sideOf fs id = if firstF fs id < fs.length then (true, fg fs (firstF fs id)) else (false, zft) := by
  induction fs with
  | nil => rfl
  | cons u us ih =>
    rw [sideOf_cons, ih]
    unfold firstF
    rw [List.findIdx_cons]
    by_cases e : u.1 = id
    · rw [if_pos e, if_pos (by simp [e])]
      simp [e, fg]
    · rw [if_neg e]
      simp only [e, decide_false, cond_false, List.length_cons, Nat.add_lt_add_iff_right]
      split
      · rename_i h
        simp [fg, h]
      · rfl

theorem oneT_other {t : List Ft} {c : Ch} {id : ByteArray} (h : c.1 ≠ id) (hc : sideGood c.1 c.2.2.2.1 c.2.2.2.2 = true) : sideOf (oneT t c) id = sideOf t id := by
  unfold oneT
  by_cases hs : c.2.2.2.1 = true
  · rw [if_pos hs]
    unfold sideGood at hs hc
    rw [if_pos hs, Bool.and_eq_true, decide_eq_true_eq] at hc
    exact sideOf_put (by rw [hc.2]; exact h) t
  · rw [if_neg hs]
    exact sideOf_cut h t

theorem cb_lt {ds : List Ch} (h : diffOk ds = true) {i j : Nat} (hij : i < j) (hj : j < ds.length) : cid ds i ≠ cid ds j := by
  have h1 : chsGood ds = true := by
    unfold diffOk at h
    rw [Bool.and_eq_true] at h
    exact h.1
  have step : ∀ j, j + 1 < ds.length → cb ds j < cb ds (j + 1) := fun j hj => by
    have := chsGood_at h1 hj
    simp [chGood] at this
    exact this.2
  have all : ∀ d i, i + d + 1 < ds.length → cb ds i < cb ds (i + d + 1) := by
    intro d
    induction d with
    | zero => exact fun i hi => step i hi
    | succ d ih => exact fun i hi => List.lt_trans (ih i (by omega)) (step _ hi)
  have := all (j - i - 1) i (by omega)
  rw [show i + (j - i - 1) + 1 = j by omega] at this
  intro e
  unfold cb at this
  rw [e] at this
  exact absurd this (List.lt_irrefl _)

theorem turnTo_side {fs : List Ft} {ds : List Ch} (h : diffOk ds = true) {j : Nat} (hj : j < ds.length) : ∀ k, k ≤ j → sideOf (turnTo fs ds k) (cid ds j) = sideOf fs (cid ds j)
  | 0, _ => rfl
  | k + 1, hk => by
    show sideOf (oneT (turnTo fs ds k) (cg ds k)) (cid ds j) = _
    rw [oneT_other (cb_lt h (by omega) hj) (good_sides h (by omega)).2]
    exact turnTo_side h hj k (by omega)

theorem fits_turn {fs : List Ft} {ds : List Ch} (h : diffOk ds = true) {j : Nat} (hj : j < ds.length) : fits (turnTo fs ds j) (cg ds j) = fits fs (cg ds j) := by
  have := turnTo_side (fs := fs) h hj j (Nat.le_refl _)
  unfold fits
  unfold cid at this
  rw [this]

/-- all changes fit -/
def fitsAll (fs : List Ft) (ds : List Ch) : Bool := (List.range ds.length).all fun k => fits fs (cg ds k)
theorem fitsAll_of {fs : List Ft} {ds : List Ch} (h : ∀ j, j < ds.length → fits fs (cg ds j) = true) : fitsAll fs ds = true := by
  unfold fitsAll
  rw [List.all_eq_true]
  exact fun j hj => h j (by simpa using hj)
theorem fitsAll_not {fs : List Ft} {ds : List Ch} {j : Nat} (hj : j < ds.length) (h : fits fs (cg ds j) = false) : fitsAll fs ds = false := by
  unfold fitsAll
  rw [List.all_eq_false]
  exact ⟨j, by simpa using hj, by simp [h]⟩

/-- what a map is turned into, and whether it can be -/
def doOk (fs : List Ft) (ds : List Ch) : Bool := sheetOk fs && (diffOk ds && (fitsAll fs ds && sheetOk (turnTo fs ds ds.length)))
def doR (fs : List Ft) (ds : List Ch) : List Ft := if doOk fs ds then turnTo fs ds ds.length else []

theorem cutL_len' (t : List Ft) (id : ByteArray) : (cutL t id).length ≤ t.length := List.length_filter_le _ _
theorem turnTo_len (fs : List Ft) (ds : List Ch) : ∀ k, (turnTo fs ds k).length ≤ fs.length + k
  | 0 => Nat.le_refl _
  | k + 1 => by
    have ih := turnTo_len fs ds k
    show (oneT (turnTo fs ds k) (cg ds k)).length ≤ _
    unfold oneT
    split
    · have := putL_len (cg ds k).2.2.2.2 (turnTo fs ds k)
      omega
    · have := cutL_len' (turnTo fs ds k) (cg ds k).1
      omega
theorem turnTo_lens {fs : List Ft} {ds : List Ch} {m : Int} (h : FeatsLen fs m) (hd : ChLen ds m) : ∀ k, k ≤ ds.length → FeatsLen (turnTo fs ds k) m
  | 0, _ => h
  | k + 1, hk => by
    have ih := turnTo_lens h hd k (by omega)
    show FeatsLen (oneT (turnTo fs ds k) (cg ds k)) m
    unfold oneT
    split
    · exact putL_lens ih (hd k (by omega)).2.2
    · exact cutL_lens _ ih

theorem sideOf_len {t : List Ft} {m : Int} (hm : 0 ≤ m) (h : FeatsLen t m) (id : ByteArray) : FtLen (sideOf t id).2 m := by
  rw [sideOf_first]
  split
  · rename_i hlt
    exact h _ hlt
  · exact ⟨by simpa [zft] using hm, by simpa [zft] using hm, by simpa [zft] using hm, fun j hj => absurd hj (Nat.not_lt_zero _)⟩

theorem look_hit2 {w : World} {b n : Nat} {D : DataW Value} {us : List En} (hown : w.ownsMap Tryz.prog 9 heldElem b n D) (ht : TellsF D us) {i : Nat} (hi : i < us.length) (hl : (ek us i).size ≤ maxLen) :
    (Instr.lookup 62 (.map (some b)) (.string (ek us i)) true).run Tryz.prog w = .ok (.tuple #[ev us i, .bool true]) w := by
  have hz : (zeroValue 57).run Tryz.prog w = .ok (.agg #[.string .empty, .int .i64 0, .slice none 0 0, .slice none 0 0]) w := by kernel_rfl
  obtain ⟨v, ps, hrun, hv⟩ := hown.look_ok keyT Tryz.underlying62 hz (zd := .held (.agg #[.string .empty, .int .i64 0, .slice none 0 0, .slice none 0 0])) (zp := []) rfl (Go.WideMaps.keyOf_string_mk Tryz.underlying9 hl)
  simp only [heldElem, Option.some.injEq, Prod.mk.injEq] at hv
  have hm : us[i] ∈ us := List.getElem_mem hi
  have e : (ek us i) = us[i].1 := by simp [ek, hi]
  have e2 : (ev us i) = us[i].2 := by simp [ev, hi]
  have h1 := ht.at_ us[i] hm
  rw [e] at hrun hv ⊢
  have hh : Maps.has D (.string us[i].1.data.toList) = true := has_true_of_atKey h1
  have h3 := hv.1
  rw [show D.atKey (.string us[i].1.data.toList) _ = .held (entV us[i]) from h1 _] at h3
  rw [hrun, DataW.held.inj h3, hh, e2]
  rfl

theorem look_miss2 {w0 w : World} {b n : Nat} {D : DataW Value} {us : List En} {fs : List Ft} {id : ByteArray} (hown : w.ownsMap Tryz.prog 9 heldElem b n D) (ht : TellsF D us) (he : Ents w0 us fs) (hno : ∀ j, j < fs.length → fid fs j ≠ id) (hl : id.size ≤ maxLen) :
    (Instr.lookup 62 (.map (some b)) (.string id) true).run Tryz.prog w = .ok (.tuple #[.agg #[.string .empty, .int .i64 0, .slice none 0 0, .slice none 0 0], .bool false]) w := by
  have hz : (zeroValue 57).run Tryz.prog w = .ok (.agg #[.string .empty, .int .i64 0, .slice none 0 0, .slice none 0 0]) w := by kernel_rfl
  obtain ⟨v, ps, hrun, hv⟩ := hown.look_ok keyT Tryz.underlying62 hz (zd := .held (.agg #[.string .empty, .int .i64 0, .slice none 0 0, .slice none 0 0])) (zp := []) rfl (Go.WideMaps.keyOf_string_mk Tryz.underlying9 hl)
  simp only [heldElem, Option.some.injEq, Prod.mk.injEq] at hv
  have hn : Maps.has D (.string id.data.toList) = false := by
    cases hh : Maps.has D (.string id.data.toList)
    · rfl
    · obtain ⟨t, h1, h2⟩ := ht.has _ hh
      obtain ⟨j, hj, e⟩ := List.getElem_of_mem h1
      have hj' : j < fs.length := by rw [← he.1]; exact hj
      rw [ent_get he hj'] at e
      refine absurd ?_ (hno j hj')
      rw [← toList_inj, ByteArray.toList_eq, ByteArray.toList_eq, ← h2, ← e]
      rfl
  have h3 := hv.1
  rw [atKey_of_not_has hn] at h3
  rw [hrun, DataW.held.inj h3, hn]
end Go.Proofs.YtelimcknhaflfaaGreat

namespace Go.Proofs.YtelimcknhaflfaaGreat
set_option linter.unusedVariables false
open Go.ChangeShapes Go.WideShapes Go.ChangeAt Go.RowKit

theorem sheet_pos {t : List Ft} (h : sheetOk t = true) {i : Nat} (hi : i < t.length) : 0 < (fps t i).length := ftOk_pts (by
  have h1 : featsGood t = true := by
    unfold sheetOk at h
    rw [Bool.and_eq_true] at h
    exact h.1
  have := featsGood_at h1 hi
  unfold featGood at this
  rw [Bool.and_eq_true] at this
  exact this.1)

set_option maxRecDepth 100000 in
set_option maxHeartbeats 4000000 in
theorem l4Side_any (a : Option Addr) (cap : Nat) (fs : List Ft) (id : ByteArray) (w : World) (hp : FeatsAt w a fs) (hl : fs.length ≤ 1048576) (hL : FeatsLen fs 1048576) (hpos : ∀ i, i < fs.length → 0 < (fps fs i).length) :
    Calls Tryz.prog 61 #[.slice a fs.length cap, .string id] w fun e w' => (∃ xa xc ya yc, e = .returned (.tuple #[.agg #[.string (sideOf fs id).2.1, .int .i64 (sideOf fs id).2.2.1, .slice xa (sideOf fs id).2.2.2.1.length xc, .slice ya (sideOf fs id).2.2.2.2.length yc], .bool (sideOf fs id).1]) ∧ PtsAt w' xa (sideOf fs id).2.2.2.1 ∧ TagsAt w' ya (sideOf fs id).2.2.2.2) ∧ Below w.heap.size w w' := by
  have HP := Lib.hid hp
  have HL := Lib.hid hL
  have HQ := Lib.hid hpos
  clear hp hL hpos
  have A0 : Hid (∀ o, Below w.heap.size w (w.alloc o)) := fun o => (Below.refl _ _).alloc (Nat.le_refl _) _
  have HS := Lib.hid (sideOf_first (fs := fs) (id := id))
  go_enter Tryz.func61, Tryz.ntmps61
  go_wp2_with fail
  refine (l3Find_any _ _ _ _ _ (HP.out.below (A0.out _)) hl).mono ?_
  rintro e w1 ⟨rfl, rfl⟩
  by_cases hlt : firstF fs id < fs.length
  · have hfv : findV fs id = (firstF fs id : Int) := by unfold findV; rw [if_pos hlt]
    have HG : Hid (sideOf fs id = (true, fg fs (firstF fs id))) := by show _ = _; rw [HS.out, if_pos hlt]
    rw [hfv]
    generalize firstF fs id = i at *
    obtain ⟨b, off, pa, pc, ta, tc, rfl, hb, d1, d2, d3, d4, hpp, htt⟩ := (HP.out.below (A0.out (.cells #[.string ⟨#[]⟩, .int .i64 0, .slice none 0 0, .slice none 0 0] 57))) i hlt
    obtain ⟨l1, l2, l3, _⟩ := HL.out i hlt
    have hq := HQ.out i hlt
    unfold fid at d1
    unfold fkd at d2
    unfold fps at d3 hpp l2 hq
    unfold fts at d4 htt l3
    have KC := Lib.hid (l2Copy_side (fg fs i) pa pc ta tc _ hpp htt (by omega) (by omega) (fun e => by omega))
    clear hpp htt hfv
    go_wp2_with fail
    refine KC.out.mono ?_
    rintro e w2 ⟨xa, xc, ya, yc, rfl, gx, hb2⟩
    obtain ⟨⟨r0, r1, r2, r3⟩, rf⟩ := (BoxS.new w (.string ⟨#[]⟩) (.int .i64 0) (.slice none 0 0) (.slice none 0 0) 57).later hb2
    have f0 := rf 0
    have f1 := rf 1
    have f2 := rf 2
    have f3 := rf 3
    have B2 : Hid (Below w.heap.size w w2) := (A0.out _).trans (hb2.mono (by simp))
    have G2 := Lib.hid gx
    clear rf hb2 gx KC d1 d2 d3 d4
    have TF := Lib.hid (turned4 w2 w.heap.size (.string (fg fs i).1) (.int .i64 (fg fs i).2.1) (.slice xa (fg fs i).2.2.1.length xc) (.slice ya (fg fs i).2.2.2.length yc))
    go_wp2
    refine bodyPost_ret (v := .tuple #[.agg #[.string (fg fs i).1, .int .i64 (fg fs i).2.1, .slice xa (fg fs i).2.2.1.length xc, .slice ya (fg fs i).2.2.2.length yc], .bool true]) (by simp [results, Tryz.results61, go_sem, r0, r1, r2, r3]) rfl ?_
    have G3 := G2.out.turned TF.out (fun x hx _ e => by simp at hx; omega)
    rw [HG.out]
    exact ⟨⟨xa, xc, ya, yc, rfl, G3.1, G3.2.1⟩, B2.out.trans (TF.out.below B2.out.size (fun x e => by omega))⟩
  · have hfv : findV fs id = -1 := by unfold findV; rw [if_neg hlt]
    have HG : Hid (sideOf fs id = (false, zft)) := by show _ = _; rw [HS.out, if_neg hlt]
    rw [hfv]
    have TF := Lib.hid (turned4 (w.alloc (.cells #[.string ⟨#[]⟩, .int .i64 0, .slice none 0 0, .slice none 0 0] 57)) w.heap.size (.string ⟨#[]⟩) (.int .i64 0) (.slice none 0 0) (.slice none 0 0))
    go_wp2
    refine bodyPost_ret (v := .tuple #[.agg #[.string ⟨#[]⟩, .int .i64 0, .slice none 0 0, .slice none 0 0], .bool false]) (by simp [results, Tryz.results61, go_sem]) rfl ?_
    rw [HG.out]
    first
      | exact ⟨⟨none, 0, none, 0, rfl, PtsAt.nil _ _, TagsAt.nil _ _⟩, A0.out _⟩
      | exact ⟨⟨none, 0, none, 0, rfl, PtsAt.nil _ _, TagsAt.nil _ _⟩, (A0.out _).trans (TF.out.below (by simp) (fun x e => by omega))⟩

set_option maxRecDepth 100000 in
set_option maxHeartbeats 4000000 in
theorem l4Fits_any (a : Option Addr) (cap : Nat) (fs : List Ft) (i : ByteArray) (h : Bool) (f : Ft) (s : Bool) (g : Ft) (pa : Option Addr) (pc : Nat) (ta : Option Addr) (tc : Nat) (qa : Option Addr) (qc : Nat) (ua : Option Addr) (uc : Nat) (w : World) (hp : FeatsAt w a fs) (hl : fs.length ≤ 1048576) (hL : FeatsLen fs 1048576) (hpos : ∀ i, i < fs.length → 0 < (fps fs i).length) (hpp : PtsAt w pa f.2.2.1) (htt : TagsAt w ta f.2.2.2) (m1 : f.2.2.1.length ≤ 1048576) (m2 : f.2.2.2.length ≤ 1048576) :
    Calls Tryz.prog 41 #[.slice a fs.length cap, .agg #[.string i, .bool h, .string f.1, .int .i64 f.2.1, .slice pa f.2.2.1.length pc, .slice ta f.2.2.2.length tc, .bool s, .string g.1, .int .i64 g.2.1, .slice qa g.2.2.1.length qc, .slice ua g.2.2.2.length uc]] w fun e w' => e = .returned (.bool (fits fs (i, h, f, s, g))) ∧ Below w.heap.size w w' := by
  have HP := Lib.hid hp
  have HL := Lib.hid hL
  have HQ := Lib.hid hpos
  have PP := Lib.hid hpp
  have TT := Lib.hid htt
  clear hp hL hpos hpp htt
  have A0 : Hid (∀ o, Below w.heap.size w (w.alloc o)) := fun o => (Below.refl _ _).alloc (Nat.le_refl _) _
  have sl := sideOf_len (by omega) HL.out i
  have HF : Hid (fits fs (i, h, f, s, g) = ((sideOf fs i).1 == h && ftEq (sideOf fs i).2 f)) := rfl
  go_enter Tryz.func41, Tryz.ntmps41
  go_wp2_with fail
  refine (l4Side_any _ _ _ i _ (HP.out.below (A0.out _)) hl HL.out HQ.out).mono ?_
  rintro e w1 ⟨⟨xa, xc, ya, yc, rfl, hx, hy⟩, hb1⟩
  have c1 := cell_later hb1 (a := ⟨w.heap.size, 1, none⟩) (v := .bool h) (by simp [go_sem])
  have c2 := cell_later hb1 (a := ⟨w.heap.size, 2, none⟩) (v := .string f.1) (by simp [go_sem])
  have c3 := cell_later hb1 (a := ⟨w.heap.size, 3, none⟩) (v := .int .i64 f.2.1) (by simp [go_sem])
  have c4 := cell_later hb1 (a := ⟨w.heap.size, 4, none⟩) (v := .slice pa f.2.2.1.length pc) (by simp [go_sem])
  have c5 := cell_later hb1 (a := ⟨w.heap.size, 5, none⟩) (v := .slice ta f.2.2.2.length tc) (by simp [go_sem])
  have z1 : w.heap.size < w1.heap.size := World.block_lt_of_cell? _ _ c1
  have B1 : Hid (Below w.heap.size w w1) := (A0.out _).trans (hb1.mono (by simp))
  have A1 : Hid (∀ o, Below w1.heap.size w1 (w1.alloc o)) := fun o => (Below.refl _ _).alloc (Nat.le_refl _) _
  generalize sideOf fs i = sd at *
  obtain ⟨sb, sf⟩ := sd
  simp only at *
  have KS : Hid (∀ u, Below w1.heap.size w1 u → Calls Tryz.prog 52 #[.agg #[.string sf.1, .int .i64 sf.2.1, .slice xa sf.2.2.1.length xc, .slice ya sf.2.2.2.length yc], .agg #[.string f.1, .int .i64 f.2.1, .slice pa f.2.2.1.length pc, .slice ta f.2.2.2.length tc]] u fun e w' => e = .returned (.bool (ftEq sf f)) ∧ Below u.heap.size u w') := fun u hu => by
    have := specFeatSame_any sf.1 f.1 sf.2.1 f.2.1 xa pa xc pc sf.2.2.1 f.2.2.1 ya ta yc tc sf.2.2.2 f.2.2.2 u (hx.below hu) ((PP.out.below B1.out).below hu) (hy.below hu) ((TT.out.below B1.out).below hu) (by have := sl.2.1; omega) m1 (by have := sl.2.2.1; omega) m2
    rwa [featEq_ft] at this
  clear hx hy hb1 sl PP TT
  cases sb
  · cases h
    · go_wp2_with fail
      refine (KS.out _ (A1.out _)).mono ?_
      rintro e w2 ⟨rfl, hb2⟩
      have B2 : Hid (Below w.heap.size w w2) := (B1.out.trans ((A1.out _).mono B1.out.size)).trans (hb2.mono (by have := B1.out.size; simp; omega))
      clear hb2
      go_wp2
      go_ret
      exact ⟨by rw [HF.out]; rfl, B2.out⟩
    · go_wp2
      go_ret
      exact ⟨by rw [HF.out]; rfl, B1.out.trans ((A1.out _).mono B1.out.size)⟩
  · cases h
    · go_wp2
      go_ret
      exact ⟨by rw [HF.out]; rfl, B1.out.trans ((A1.out _).mono B1.out.size)⟩
    · go_wp2_with fail
      refine (KS.out _ (A1.out _)).mono ?_
      rintro e w2 ⟨rfl, hb2⟩
      have B2 : Hid (Below w.heap.size w w2) := (B1.out.trans ((A1.out _).mono B1.out.size)).trans (hb2.mono (by have := B1.out.size; simp; omega))
      clear hb2
      go_wp2
      go_ret
      exact ⟨by rw [HF.out]; rfl, B2.out⟩

set_option maxRecDepth 100000 in
set_option maxHeartbeats 8000000 in
theorem specDiffDo_any (a : Option Addr) (cap : Nat) (fs : List Ft) (a1 : Option Addr) (cap1 : Nat) (ds : List Ch) (w : World) (hp : FeatsAt w a fs) (hl : fs.length ≤ 1048576) (hL : FeatsLen fs 1048576) (hd : ChangesAt w a1 ds) (hdl : ds.length ≤ 1048576) (hdL : ChLen ds 1048576) :
    Calls Tryz.prog 17 #[.slice a fs.length cap, .slice a1 ds.length cap1] w fun e w' => (∃ v, e = .returned (.tuple #[v, .bool (doOk fs ds)]) ∧ GotL w.heap.size w'.heap.size w' v (doR fs ds)) ∧ Below w.heap.size w w' := by
  have HP := Lib.hid hp
  have HL := Lib.hid hL
  have HD := Lib.hid hd
  have HDL := Lib.hid hdL
  clear hp hL hd hdL
  have HO : Hid (doOk fs ds = (sheetOk fs && (diffOk ds && (fitsAll fs ds && sheetOk (turnTo fs ds ds.length))))) := rfl
  have HN : Hid (doOk fs ds = false → doR fs ds = []) := fun h => by unfold doR; rw [h]; rfl
  go_enter Tryz.func17, Tryz.ntmps17
  go_wp2_with fail
  refine (specSheetOk_any _ _ _ _ HP.out hl HL.out).mono ?_
  rintro e w1 ⟨rfl, hb1⟩
  have B1 := Lib.hid hb1
  clear hb1
  by_cases hok : sheetOk fs = true
  · rw [hok]
    have hl8 : fs.length ≤ 8 := by unfold sheetOk at hok; rw [Bool.and_eq_true, decide_eq_true_eq] at hok; exact hok.2
    have HQ := Lib.hid (fun i (hi : i < fs.length) => sheet_pos hok hi)
    go_wp2_with fail
    refine (specDiffOk_any _ _ _ _ (HD.out.below B1.out) hdl HDL.out).mono ?_
    rintro e w2 ⟨rfl, hb2⟩
    have B2 : Hid (Below w.heap.size w w2) := B1.out.trans (hb2.mono B1.out.size)
    clear hb2
    by_cases hdo : diffOk ds = true
    · rw [hdo]
      have hl16 : ds.length ≤ 16 := by unfold diffOk at hdo; rw [Bool.and_eq_true, decide_eq_true_eq] at hdo; exact hdo.2
      have TL := Lib.hid (fun k (hk : k ≤ ds.length) => turnTo_lens HL.out HDL.out k hk)
      have TN := Lib.hid (turnTo_len fs ds)
      have HK := Lib.hid hok
      have HKD := Lib.hid hdo
      clear hok hdo
      go_wp2
      go_loopw [6, 7] (fun q i wr => ∃ (k : Nat) (a2 : Option Addr) (cap2 : Nat), k ≤ ds.length ∧ q = .slice a2 (turnTo fs ds k).length cap2 ∧ i = .int .i64 k ∧ FeatsAt wr a2 (turnTo fs ds k) ∧ Below w.heap.size w wr ∧ ∀ j, j < k → fits fs (cg ds j) = true) (fun _ i _ => ds.length - (intOf i).toNat)
      case atStart => exact ⟨0, a, cap, Nat.zero_le _, rfl, rfl, HP.out.below B2.out, B2.out, fun j h => absurd h (Nat.not_lt_zero _)⟩
      case round =>
        obtain ⟨k, a2, cap2, hk, rfl, rfl, hF, hbel, hall⟩ := hrel
        have HF2 := Lib.hid hF
        have HB := Lib.hid hbel
        have HA := Lib.hid hall
        have hsz := hbel.size
        have tn := TN.out k
        clear hF hall
        by_cases hlt : k < ds.length
        · have HT : Hid (turnTo fs ds (k + 1) = oneT (turnTo fs ds k) (cg ds k)) := rfl
          obtain ⟨b, off, pa, pc, ta, tc, qa, qc, ua, uc, rfl, hx⟩ := HD.out k hlt
          obtain ⟨l1, l2, l3⟩ := HDL.out k hlt
          have HFA : Hid (fits fs (cg ds k) = false → doOk fs ds = false) := fun h => by rw [HO.out, fitsAll_not hlt h]; simp
          unfold cid chd cwf chs cnf at hx
          unfold cwf at l2
          unfold cnf at l3
          have HAN : Hid (fits fs (cg ds k) = true → ∀ j, j < k + 1 → fits fs (cg ds j) = true) := fun h j hj => by by_cases e : j = k; (rw [e]; exact h); exact HA.out j (by omega)
          generalize cg ds k = c at *
          obtain ⟨i, h, f, s, g⟩ := c
          have HXX := Lib.hid hx
          obtain ⟨hb, c0, c1, c2, c3, c4, c5, c6, c7, c8, c9, c10, hpp, htt, hqq, huu⟩ := hx.below hbel
          try simp only at c0 c1 c2 c3 c4 c5 c6 c7 c8 c9 c10 l2 l3
          have KF := Lib.hid (l4Fits_any a cap fs i h f s g pa pc ta tc qa qc ua uc wr (HP.out.below hbel) hl HL.out HQ.out hpp htt (by have := l2.2.1; omega) (by have := l2.2.2.1; omega))
          clear hpp htt hqq huu hx hbel
          go_wp2_with fail
          refine KF.out.mono ?_
          rintro e w3 ⟨rfl, hb3⟩
          have B3 : Hid (Below w.heap.size w w3) := HB.out.trans (hb3.mono hsz)
          have F3 := Lib.hid (HF2.out.below hb3)
          clear hb3 KF HF2 c0 c1 c2 c3 c4 c5 c6 c7 c8 c9 c10
          by_cases hfi : fits fs (i, h, f, s, g) = true
          · rw [hfi]
            obtain ⟨hb, c0, c1, c2, c3, c4, c5, c6, c7, c8, c9, c10, hpp, htt, hqq, huu⟩ := HXX.out.below B3.out
            try simp only at c0 c1 c2 c3 c4 c5 c6 c7 c8 c9 c10
            have QQ := Lib.hid hqq
            have UU := Lib.hid huu
            clear hpp htt hqq huu c1 c2 c3 c4 c5
            cases s
            · clear c7 c8 c9 c10
              go_wp2_with fail
              refine (l3Cut_any _ _ _ i _ F3.out (by omega)).mono ?_
              rintro e w4 ⟨⟨a4, cap4, rfl, hF4⟩, hb4⟩
              have F4 : Hid (FeatsAt w4 a4 (turnTo fs ds (k + 1))) := by rw [HT.out]; exact hF4
              have B4 : Hid (Below w.heap.size w w4) := B3.out.trans (hb4.mono B3.out.size)
              clear hF4 hb4 c0 c6
              go_wp2
              go_roundw
              case rel => exact ⟨k + 1, a4, cap4, by omega, by rw [HT.out]; rfl, by go_num, F4.out, B4.out, HAN.out hfi⟩
              case measure => simp [intOf]; omega
            · go_wp2_with fail
              refine (l3Put_any _ _ _ g qa ua qc uc _ F3.out (by omega) QQ.out UU.out).mono ?_
              rintro e w4 ⟨⟨a4, cap4, rfl, hF4⟩, hb4⟩
              have F4 : Hid (FeatsAt w4 a4 (turnTo fs ds (k + 1))) := by rw [HT.out]; exact hF4
              have B4 : Hid (Below w.heap.size w w4) := B3.out.trans (hb4.mono B3.out.size)
              clear hF4 hb4 c0 c6 c7 c8 c9 c10
              go_wp2
              go_roundw
              case rel => exact ⟨k + 1, a4, cap4, by omega, by rw [HT.out]; rfl, by go_num, F4.out, B4.out, HAN.out hfi⟩
              case measure => simp [intOf]; omega
          · have hfi' : fits fs (i, h, f, s, g) = false := by simpa using hfi
            rw [hfi']
            have HF := Lib.hid (HFA.out hfi')
            clear hfi hfi'
            go_wp2
            go_ret2
            rw [HF.out, HN.out HF.out]
            exact ⟨⟨_, rfl, gotL_nil _ _ _ _ _⟩, B3.out.alloc B3.out.size _⟩
        · obtain rfl : k = ds.length := by omega
          have HFT := Lib.hid (fitsAll_of HA.out)
          clear hbel
          go_wp2_with fail
          refine (specSheetOk_any _ _ _ _ HF2.out (by omega) (TL.out _ (Nat.le_refl _))).mono ?_
          rintro e w3 ⟨rfl, hb3⟩
          have B3 : Hid (Below w.heap.size w w3) := HB.out.trans (hb3.mono hsz)
          have F3 := Lib.hid (HF2.out.below hb3)
          clear hb3
          by_cases hto : sheetOk (turnTo fs ds ds.length) = true
          · rw [hto]
            have HF : Hid (doOk fs ds = true) := by show _ = _; rw [HO.out, HK.out, HKD.out, HFT.out, hto]; rfl
            have HG : Hid (doR fs ds = turnTo fs ds ds.length) := by show _ = _; unfold doR; rw [HF.out, if_pos rfl]
            go_wp2_with fail
            refine (l3Copy_any _ _ _ _ F3.out (by omega) (TL.out _ (Nat.le_refl _)) (fun i hi => sheet_pos hto hi)).mono ?_
            rintro e w4 ⟨⟨v, rfl, hg⟩, hb4⟩
            have B4 : Hid (Below w.heap.size w w4) := B3.out.trans (hb4.mono B3.out.size)
            have GG := Lib.hid (hg.mono B3.out.size (Nat.le_refl _))
            clear hg hb4 hto
            go_wp2
            go_ret2
            rw [HF.out, HG.out]
            exact ⟨⟨v, rfl, GG.out⟩, B4.out⟩
          · have hto' : sheetOk (turnTo fs ds ds.length) = false := by simpa using hto
            rw [hto']
            have HF : Hid (doOk fs ds = false) := by show _ = _; rw [HO.out, hto']; simp
            clear hto hto'
            go_wp2
            go_ret2
            rw [HF.out, HN.out HF.out]
            exact ⟨⟨_, rfl, gotL_nil _ _ _ _ _⟩, B3.out.alloc B3.out.size _⟩
    · have hdo' : diffOk ds = false := by simpa using hdo
      rw [hdo']
      have HF : Hid (doOk fs ds = false) := by show _ = _; rw [HO.out, hdo']; simp
      clear hdo hdo' hok
      go_wp2
      go_ret2
      rw [HF.out, HN.out HF.out]
      exact ⟨⟨_, rfl, gotL_nil _ _ _ _ _⟩, B2.out.alloc B2.out.size _⟩
  · have hok' : sheetOk fs = false := by simpa using hok
    rw [hok']
    have HF : Hid (doOk fs ds = false) := by show _ = _; rw [HO.out, hok']; simp
    clear hok hok'
    go_wp2
    go_ret2
    rw [HF.out, HN.out HF.out]
    exact ⟨⟨_, rfl, gotL_nil _ _ _ _ _⟩, B1.out.alloc B1.out.size _⟩
end Go.Proofs.YtelimcknhaflfaaGreat

namespace Go.Proofs.YtelimcknhaflfaaGreat
set_option linter.unusedVariables false
open Go.ChangeShapes Go.WideShapes Go.ChangeAt Go.RowKit Go.Maps

/-- a look-up tells the thing of a name, if there is one -/
theorem look_side {w0 w : World} {b n : Nat} {D : DataW Value} {us : List En} {t : List Ft} {id : ByteArray} (hown : w.ownsMap Tryz.prog 9 heldElem b n D) (ht : TellsF D us) (he : Ents w0 us t) (hL : FeatsLen t 1048576) (hi : id.size ≤ 1048576) :
    ∃ xa xc ya yc, (∀ o, (Instr.lookup 62 (.map (some b)) (.string id) true).run Tryz.prog (w.alloc o) = .ok (.tuple #[.agg #[.string (sideOf t id).2.1, .int .i64 (sideOf t id).2.2.1, .slice xa (sideOf t id).2.2.2.1.length xc, .slice ya (sideOf t id).2.2.2.2.length yc], .bool (sideOf t id).1]) (w.alloc o)) ∧
      PtsAt w0 xa (sideOf t id).2.2.2.1 ∧ TagsAt w0 ya (sideOf t id).2.2.2.2 := by
  rw [sideOf_first]
  by_cases hlt : firstF t id < t.length
  · rw [if_pos hlt]
    have hat := firstF_at hlt
    obtain ⟨hk, pa, pc, ta, tc, hev, hpp, htt⟩ := he.2 _ hlt
    refine ⟨pa, pc, ta, tc, fun o => ?_, hpp, htt⟩
    have := look_hit2 (hown.alloc o) ht (i := firstF t id) (by rw [he.1]; exact hlt) (by rw [hk, hat]; unfold maxLen; omega)
    rw [hk, hat, hev] at this
    exact this
  · rw [if_neg hlt]
    refine ⟨none, 0, none, 0, fun o => ?_, PtsAt.nil _ _, TagsAt.nil _ _⟩
    exact look_miss2 (hown.alloc o) ht he (firstF_none hlt) (by unfold maxLen; omega)

set_option maxRecDepth 100000 in
set_option maxHeartbeats 8000000 in
theorem turnByName_any (w0 w : World) (b n : Nat) (D : DataW Value) (us : List En) (fs : List Ft) (a : Option Addr) (cap : Nat) (ds : List Ch) (hb0 : Below w0.heap.size w0 w) (hbw : w0.heap.size ≤ b) (hown : w.ownsMap Tryz.prog 9 heldElem b n D) (ht : TellsF D us) (hD : IsMap D) (he : Ents w0 us fs) (hp : ChangesAt w0 a ds) (hok : diffOk ds = true) (hL : FeatsLen fs 1048576) (hdL : ChLen ds 1048576) (hn : n ≤ 8) :
    Calls Tryz.prog 47 #[.map (some b), .slice a ds.length cap] w fun e w' => e = .returned (.bool (fitsAll fs ds)) ∧ (fitsAll fs ds = true → ∃ n' D' us', w'.ownsMap Tryz.prog 9 heldElem b n' D' ∧ n' ≤ 24 ∧ TellsF D' us' ∧ Ents w0 us' (turnTo fs ds ds.length)) ∧ Below w0.heap.size w0 w' := by
  have HP := Lib.hid hp
  have HL := Lib.hid hL
  have HDL := Lib.hid hdL
  have H0 : Hid (∃ n' D' us', w.ownsMap Tryz.prog 9 heldElem b n' D' ∧ n' ≤ n + 0 ∧ TellsF D' us' ∧ IsMap D' ∧ Ents w0 us' (turnTo fs ds 0)) := ⟨n, D, us, hown, Nat.le_refl _, ht, hD, he⟩
  have B0 := Lib.hid hb0
  have hl16 : ds.length ≤ 16 := by unfold diffOk at hok; rw [Bool.and_eq_true, decide_eq_true_eq] at hok; exact hok.2
  have HF := Lib.hid (fun j (hj : j < ds.length) => fits_turn (fs := fs) hok hj)
  have HGS := Lib.hid (fun j (hj : j < ds.length) => good_sides hok hj)
  have TL := Lib.hid (fun k (hk : k ≤ ds.length) => turnTo_lens HL.out HDL.out k hk)
  clear hp hL hdL hown ht hD he hb0 hok
  go_enter Tryz.func47, Tryz.ntmps47
  go_wp2
  go_loopw [6, 7, 8, 11] (fun _ _ _ i wr => ∃ k : Nat, k ≤ ds.length ∧ i = .int .i64 k ∧ (∃ n' D' us', wr.ownsMap Tryz.prog 9 heldElem b n' D' ∧ n' ≤ n + k ∧ TellsF D' us' ∧ IsMap D' ∧ Ents w0 us' (turnTo fs ds k)) ∧ Below w0.heap.size w0 wr ∧ ∀ j, j < k → fits fs (cg ds j) = true) (fun _ _ _ i _ => ds.length - (intOf i).toNat)
  case atStart => exact ⟨0, Nat.zero_le _, rfl, H0.out, B0.out, fun j h => absurd h (Nat.not_lt_zero _)⟩
  case round =>
    obtain ⟨k, hk, rfl, ⟨n', D', us', hown, hn', htl, him, hen⟩, hbel, hall⟩ := hrel
    have HB := Lib.hid hbel
    have HA := Lib.hid hall
    have hsz := hbel.size
    clear hall
    by_cases hlt : k < ds.length
    · have HT : Hid (turnTo fs ds (k + 1) = oneT (turnTo fs ds k) (cg ds k)) := rfl
      obtain ⟨d, off, pa, pc, ta, tc, qa, qc, ua, uc, rfl, hx⟩ := HP.out k hlt
      obtain ⟨l1, l2, l3⟩ := HDL.out k hlt
      have hfe := HF.out k hlt
      have hgs := (HGS.out k hlt).2
      unfold chs cnf at hgs
      have HFA : Hid (fits fs (cg ds k) = false → fitsAll fs ds = false) := fun h => fitsAll_not hlt h
      have HAN : Hid (fits fs (cg ds k) = true → ∀ j, j < k + 1 → fits fs (cg ds j) = true) := fun h j hj => by by_cases e : j = k; (rw [e]; exact h); exact HA.out j (by omega)
      unfold cid chd cwf chs cnf at hx
      unfold cid at hgs l1
      unfold cwf at l2
      unfold cnf at l3
      generalize cg ds k = c at *
      obtain ⟨i, h, f, s, g⟩ := c
      obtain ⟨xa, xc, ya, yc, hlk, hxa, hya⟩ := look_side (id := i) hown htl hen (TL.out k hk) (by simp only at l1; omega)
      have sl := sideOf_len (by omega) (TL.out k hk) i
      have HFI : Hid (fits fs (i, h, f, s, g) = ((sideOf (turnTo fs ds k) i).1 == h && ftEq (sideOf (turnTo fs ds k) i).2 f)) := by show _ = _; rw [← hfe]; rfl
      obtain ⟨hb, c0, c1, c2, c3, c4, c5, c6, c7, c8, c9, c10, hpp, htt, hqq, huu⟩ := hx.below hbel
      try simp only at c0 c1 c2 c3 c4 c5 c6 c7 c8 c9 c10 l2 l3 hgs
      generalize hsd : sideOf (turnTo fs ds k) i = sd at *
      obtain ⟨sb, sf⟩ := sd
      try simp only at hlk hxa hya sl
      have KS : Hid (∀ u, Below w0.heap.size w0 u → Calls Tryz.prog 74 #[.agg #[.string sf.1, .int .i64 sf.2.1, .slice xa sf.2.2.1.length xc, .slice ya sf.2.2.2.length yc], .agg #[.string f.1, .int .i64 f.2.1, .slice pa f.2.2.1.length pc, .slice ta f.2.2.2.length tc]] u fun e w' => e = .returned (.bool (ftEq sf f)) ∧ Below u.heap.size u w') := fun u hu => by
        have := implFeatSame_any sf.1 f.1 sf.2.1 f.2.1 xa pa xc pc sf.2.2.1 f.2.2.1 ya ta yc tc sf.2.2.2 f.2.2.2 u (hxa.below hu) (hx.pts.below hu) (hya.below hu) (hx.tags.below hu) (by have := sl.2.1; omega) (by have := l2.2.1; omega) (by have := sl.2.2.1; omega) (by have := l2.2.2.1; omega)
        rwa [featEq_ft] at this
      have QQ : Hid (PtsAt w0 qa g.2.2.1) := hx.qts
      have UU : Hid (TagsAt w0 ua g.2.2.2) := hx.uags
      have HO := Lib.hid hown
      have HTl := Lib.hid htl
      have HIM := Lib.hid him
      have HEN := Lib.hid hen
      have holt := hown.lt
      have A1 : Hid (∀ o o2, Below wr.heap.size wr ((wr.alloc o).alloc o2)) := fun o o2 => ((Below.refl _ _).alloc (Nat.le_refl _) _).alloc (by simp) _
      have li : i.size ≤ 1048576 := by simp only at l1; omega
      clear hown htl him hen hpp htt hqq huu hx hxa hya sl hbel hfe l1 l2 l3 hsd
      cases sb
      · cases h
        · go_wp2_with fail
          refine (KS.out _ (HB.out.trans ((A1.out _ _).mono hsz))).mono ?_
          rintro e w2 ⟨rfl, hb2⟩
          have e0 := cell_later hb2 (a := ⟨wr.heap.size, 0, none⟩) (v := .string i) (cell_later ((Below.refl _ _).alloc (Nat.le_refl _) _) (by simp [go_sem]))
          have e6 := cell_later hb2 (a := ⟨wr.heap.size, 6, none⟩) (v := .bool s) (cell_later ((Below.refl _ _).alloc (Nat.le_refl _) _) (by simp [go_sem]))
          have e7 := cell_later hb2 (a := ⟨wr.heap.size, 7, none⟩) (v := .string g.1) (cell_later ((Below.refl _ _).alloc (Nat.le_refl _) _) (by simp [go_sem]))
          have e8 := cell_later hb2 (a := ⟨wr.heap.size, 8, none⟩) (v := .int .i64 g.2.1) (cell_later ((Below.refl _ _).alloc (Nat.le_refl _) _) (by simp [go_sem]))
          have e9 := cell_later hb2 (a := ⟨wr.heap.size, 9, none⟩) (v := .slice qa g.2.2.1.length qc) (cell_later ((Below.refl _ _).alloc (Nat.le_refl _) _) (by simp [go_sem]))
          have e10 := cell_later hb2 (a := ⟨wr.heap.size, 10, none⟩) (v := .slice ua g.2.2.2.length uc) (cell_later ((Below.refl _ _).alloc (Nat.le_refl _) _) (by simp [go_sem]))
          have B2 : Hid (Below wr.heap.size wr w2) := (A1.out _ _).trans (hb2.mono (by simp; omega))
          have BX : Hid (Below w0.heap.size w0 w2) := HB.out.trans (B2.out.mono hsz)
          have O2 := Lib.hid (ownsMap_below HO.out B2.out)
          clear hb2 hlk KS c0 c1 c2 c3 c4 c5 c6 c7 c8 c9 c10
          by_cases hq : ftEq sf f = true
          · rw [hq]
            have hfi := HAN.out (by rw [HFI.out, hq]; rfl)
            have HFJ := Lib.hid hfi
            clear hfi hq
            cases s
            · have hkey : keyOf Tryz.prog 9 (.string i) = some (.string i.data.toList) := Go.WideMaps.keyOf_string_mk Tryz.underlying9 (by unfold maxLen; omega)
              have EC : Hid (Ents w0 (cutF us' i.data.toList) (turnTo fs ds (k + 1))) := by show Ents _ _ _; rw [HT.out]; exact ents_cut i HEN.out
              clear e7 e8 e9 e10
              go_wp2_with (at_delete; refine wpList_delete_own _ rfl _ _ 62 9 rfl 57 keyT Tryz.underlying62 _ b n' D' rfl O2.out _ _ rfl hkey ?_; intro w4 hown4 hturn4)
              have B4 : Hid (Below w0.heap.size w0 w4) := BX.out.grown hturn4.grown BX.out.size (fun j e => by obtain rfl : b = j := (by simpa using e); exact hbw)
              have O4 := Lib.hid hown4
              clear hown4 hturn4 e0 e6
              go_roundw
              case rel => exact ⟨k + 1, by omega, by go_num, ⟨_, _, _, O4.out, by omega, HTl.out.cut _, HIM.out.del _, EC.out⟩, B4.out, HFJ.out⟩
              case measure => simp [intOf]; omega
            · have HGI : Hid (g.1 = i) := by show _ = _; unfold sideGood at hgs; rw [if_pos rfl, Bool.and_eq_true, decide_eq_true_eq] at hgs; exact hgs.2
              have hkey : keyOf Tryz.prog 9 (.string i) = some (keyL i) := Go.WideMaps.keyOf_string_mk Tryz.underlying9 (by unfold maxLen; omega)
              have EP : Hid (Ents w0 (putF us' (i, .agg #[.string g.1, .int .i64 g.2.1, .slice qa g.2.2.1.length qc, .slice ua g.2.2.2.length uc])) (turnTo fs ds (k + 1))) := by show Ents _ _ _; rw [HT.out]; exact ents_put HGI.out.symm ⟨qa, qc, ua, uc, rfl, QQ.out, UU.out⟩ HEN.out
              have TP := Lib.hid (HTl.out.put HIM.out (i, .agg #[.string g.1, .int .i64 g.2.1, .slice qa g.2.2.1.length qc, .slice ua g.2.2.2.length uc]))
              go_wp2_with (at_mapUpdate; refine wpList_mapUpdate_own _ rfl _ _ _ 62 rfl 9 57 keyT Tryz.underlying62 _ b n' D' rfl O2.out (by unfold maxLen; omega) _ _ _ rfl rfl hkey (.held (.agg #[.string g.1, .int .i64 g.2.1, .slice qa g.2.2.1.length qc, .slice ua g.2.2.2.length uc])) [] rfl ?_; intro w4 hown4 hgrow4)
              have B4 : Hid (Below w0.heap.size w0 w4) := BX.out.grown hgrow4 BX.out.size (fun j e => by obtain rfl : b = j := (by simpa using e); exact hbw)
              have O4 := Lib.hid hown4
              clear hown4 hgrow4 e0 e6 e7 e8 e9 e10
              go_roundw
              case rel => exact ⟨k + 1, by omega, by go_num, ⟨_, _, _, O4.out, by omega, TP.out, HIM.out.put _ _, EP.out⟩, B4.out, HFJ.out⟩
              case measure => simp [intOf]; omega
          · have hq' : ftEq sf f = false := by simpa using hq
            rw [hq']
            have HNF : Hid (fitsAll fs ds = false) := HFA.out (by rw [HFI.out, hq']; rfl)
            clear hq hq' e0 e6 e7 e8 e9 e10
            go_wp2
            go_ret
            exact ⟨by rw [HNF.out]; rfl, (fun h => by rw [HNF.out] at h; cases h), BX.out⟩
        · have HNF : Hid (fitsAll fs ds = false) := HFA.out (by rw [HFI.out]; rfl)
          have BX : Hid (∀ o o2, Below w0.heap.size w0 ((wr.alloc o).alloc o2)) := fun o o2 => HB.out.trans ((A1.out o o2).mono hsz)
          go_wp2
          go_ret
          exact ⟨by rw [HNF.out]; rfl, (fun h => by rw [HNF.out] at h; cases h), BX.out _ _⟩
      · cases h
        · have HNF : Hid (fitsAll fs ds = false) := HFA.out (by rw [HFI.out]; rfl)
          have BX : Hid (∀ o o2, Below w0.heap.size w0 ((wr.alloc o).alloc o2)) := fun o o2 => HB.out.trans ((A1.out o o2).mono hsz)
          go_wp2
          go_ret
          exact ⟨by rw [HNF.out]; rfl, (fun h => by rw [HNF.out] at h; cases h), BX.out _ _⟩
        · go_wp2_with fail
          refine (KS.out _ (HB.out.trans ((A1.out _ _).mono hsz))).mono ?_
          rintro e w2 ⟨rfl, hb2⟩
          have e0 := cell_later hb2 (a := ⟨wr.heap.size, 0, none⟩) (v := .string i) (cell_later ((Below.refl _ _).alloc (Nat.le_refl _) _) (by simp [go_sem]))
          have e6 := cell_later hb2 (a := ⟨wr.heap.size, 6, none⟩) (v := .bool s) (cell_later ((Below.refl _ _).alloc (Nat.le_refl _) _) (by simp [go_sem]))
          have e7 := cell_later hb2 (a := ⟨wr.heap.size, 7, none⟩) (v := .string g.1) (cell_later ((Below.refl _ _).alloc (Nat.le_refl _) _) (by simp [go_sem]))
          have e8 := cell_later hb2 (a := ⟨wr.heap.size, 8, none⟩) (v := .int .i64 g.2.1) (cell_later ((Below.refl _ _).alloc (Nat.le_refl _) _) (by simp [go_sem]))
          have e9 := cell_later hb2 (a := ⟨wr.heap.size, 9, none⟩) (v := .slice qa g.2.2.1.length qc) (cell_later ((Below.refl _ _).alloc (Nat.le_refl _) _) (by simp [go_sem]))
          have e10 := cell_later hb2 (a := ⟨wr.heap.size, 10, none⟩) (v := .slice ua g.2.2.2.length uc) (cell_later ((Below.refl _ _).alloc (Nat.le_refl _) _) (by simp [go_sem]))
          have B2 : Hid (Below wr.heap.size wr w2) := (A1.out _ _).trans (hb2.mono (by simp; omega))
          have BX : Hid (Below w0.heap.size w0 w2) := HB.out.trans (B2.out.mono hsz)
          have O2 := Lib.hid (ownsMap_below HO.out B2.out)
          clear hb2 hlk KS c0 c1 c2 c3 c4 c5 c6 c7 c8 c9 c10
          by_cases hq : ftEq sf f = true
          · rw [hq]
            have hfi := HAN.out (by rw [HFI.out, hq]; rfl)
            have HFJ := Lib.hid hfi
            clear hfi hq
            cases s
            · have hkey : keyOf Tryz.prog 9 (.string i) = some (.string i.data.toList) := Go.WideMaps.keyOf_string_mk Tryz.underlying9 (by unfold maxLen; omega)
              have EC : Hid (Ents w0 (cutF us' i.data.toList) (turnTo fs ds (k + 1))) := by show Ents _ _ _; rw [HT.out]; exact ents_cut i HEN.out
              clear e7 e8 e9 e10
              go_wp2_with (at_delete; refine wpList_delete_own _ rfl _ _ 62 9 rfl 57 keyT Tryz.underlying62 _ b n' D' rfl O2.out _ _ rfl hkey ?_; intro w4 hown4 hturn4)
              have B4 : Hid (Below w0.heap.size w0 w4) := BX.out.grown hturn4.grown BX.out.size (fun j e => by obtain rfl : b = j := (by simpa using e); exact hbw)
              have O4 := Lib.hid hown4
              clear hown4 hturn4 e0 e6
              go_roundw
              case rel => exact ⟨k + 1, by omega, by go_num, ⟨_, _, _, O4.out, by omega, HTl.out.cut _, HIM.out.del _, EC.out⟩, B4.out, HFJ.out⟩
              case measure => simp [intOf]; omega
            · have HGI : Hid (g.1 = i) := by show _ = _; unfold sideGood at hgs; rw [if_pos rfl, Bool.and_eq_true, decide_eq_true_eq] at hgs; exact hgs.2
              have hkey : keyOf Tryz.prog 9 (.string i) = some (keyL i) := Go.WideMaps.keyOf_string_mk Tryz.underlying9 (by unfold maxLen; omega)
              have EP : Hid (Ents w0 (putF us' (i, .agg #[.string g.1, .int .i64 g.2.1, .slice qa g.2.2.1.length qc, .slice ua g.2.2.2.length uc])) (turnTo fs ds (k + 1))) := by show Ents _ _ _; rw [HT.out]; exact ents_put HGI.out.symm ⟨qa, qc, ua, uc, rfl, QQ.out, UU.out⟩ HEN.out
              have TP := Lib.hid (HTl.out.put HIM.out (i, .agg #[.string g.1, .int .i64 g.2.1, .slice qa g.2.2.1.length qc, .slice ua g.2.2.2.length uc]))
              go_wp2_with (at_mapUpdate; refine wpList_mapUpdate_own _ rfl _ _ _ 62 rfl 9 57 keyT Tryz.underlying62 _ b n' D' rfl O2.out (by unfold maxLen; omega) _ _ _ rfl rfl hkey (.held (.agg #[.string g.1, .int .i64 g.2.1, .slice qa g.2.2.1.length qc, .slice ua g.2.2.2.length uc])) [] rfl ?_; intro w4 hown4 hgrow4)
              have B4 : Hid (Below w0.heap.size w0 w4) := BX.out.grown hgrow4 BX.out.size (fun j e => by obtain rfl : b = j := (by simpa using e); exact hbw)
              have O4 := Lib.hid hown4
              clear hown4 hgrow4 e0 e6 e7 e8 e9 e10
              go_roundw
              case rel => exact ⟨k + 1, by omega, by go_num, ⟨_, _, _, O4.out, by omega, TP.out, HIM.out.put _ _, EP.out⟩, B4.out, HFJ.out⟩
              case measure => simp [intOf]; omega
          · have hq' : ftEq sf f = false := by simpa using hq
            rw [hq']
            have HNF : Hid (fitsAll fs ds = false) := HFA.out (by rw [HFI.out, hq']; rfl)
            clear hq hq' e0 e6 e7 e8 e9 e10
            go_wp2
            go_ret
            exact ⟨by rw [HNF.out]; rfl, (fun h => by rw [HNF.out] at h; cases h), BX.out⟩
    · obtain rfl : k = ds.length := by omega
      have HFT := Lib.hid (fitsAll_of HA.out)
      have HO := Lib.hid hown
      have HTl := Lib.hid htl
      have HEN := Lib.hid hen
      clear hown htl him hen hbel
      go_wp2
      go_ret
      exact ⟨by rw [HFT.out]; rfl, fun _ => ⟨_, _, _, HO.out, by omega, HTl.out, HEN.out⟩, HB.out⟩
    
set_option maxRecDepth 100000 in
set_option maxHeartbeats 8000000 in
theorem implDiffDo_any (a : Option Addr) (cap : Nat) (fs : List Ft) (a1 : Option Addr) (cap1 : Nat) (ds : List Ch) (w : World) (hp : FeatsAt w a fs) (hl : fs.length ≤ 1048576) (hL : FeatsLen fs 1048576) (hd : ChangesAt w a1 ds) (hdl : ds.length ≤ 1048576) (hdL : ChLen ds 1048576) :
    Calls Tryz.prog 19 #[.slice a fs.length cap, .slice a1 ds.length cap1] w (ListAns w (doR fs ds) (doOk fs ds)) := by
  have HP := Lib.hid hp
  have HL := Lib.hid hL
  have HD := Lib.hid hd
  have HDL := Lib.hid hdL
  clear hp hL hd hdL
  have HO : Hid (doOk fs ds = (sheetOk fs && (diffOk ds && (fitsAll fs ds && sheetOk (turnTo fs ds ds.length))))) := rfl
  have HN : Hid (doOk fs ds = false → doR fs ds = []) := fun h => by unfold doR; rw [h]; rfl
  go_enter Tryz.func19, Tryz.ntmps19
  go_wp2_with fail
  refine (implSheetOk_any _ _ _ _ HP.out hl HL.out).mono ?_
  rintro e w1 ⟨rfl, hb1⟩
  have B1 := Lib.hid hb1
  clear hb1
  by_cases hok : sheetOk fs = true
  · rw [hok]
    have hl8 : fs.length ≤ 8 := by unfold sheetOk at hok; rw [Bool.and_eq_true, decide_eq_true_eq] at hok; exact hok.2
    go_wp2_with fail
    refine (implDiffOk_any _ _ _ _ (HD.out.below B1.out) hdl HDL.out).mono ?_
    rintro e w2 ⟨rfl, hb2⟩
    have B2 : Hid (Below w.heap.size w w2) := B1.out.trans (hb2.mono B1.out.size)
    clear hb2
    by_cases hdo : diffOk ds = true
    · rw [hdo]
      have TL := Lib.hid (turnTo_lens HL.out HDL.out _ (Nat.le_refl _))
      have tn := turnTo_len fs ds ds.length
      have hl16 : ds.length ≤ 16 := by unfold diffOk at hdo; rw [Bool.and_eq_true, decide_eq_true_eq] at hdo; exact hdo.2
      go_wp2_with fail
      refine (featsByName_any _ _ _ _ (HP.out.below B2.out) hl HL.out).mono ?_
      rintro e w3 ⟨rfl, ⟨es, he, ho⟩, hb3⟩
      have KT := Lib.hid (turnByName_any w2 w3 w2.heap.size fs.length (mapF es) es fs a1 cap1 ds hb3 (Nat.le_refl _) ho (ok_tells he hok) (mapF_isMap es) he (HD.out.below B2.out) hdo HL.out HDL.out hl8)
      have HK := Lib.hid hok
      have HKD := Lib.hid hdo
      clear he ho hb3 hok hdo
      go_wp2_with fail
      refine KT.out.mono ?_
      rintro e w4 ⟨rfl, htu, hb4⟩
      have B4 : Hid (Below w.heap.size w w4) := B2.out.trans (hb4.mono B2.out.size)
      clear KT
      by_cases hfa : fitsAll fs ds = true
      · rw [hfa]
        obtain ⟨n', D', us', hown, hn', htl, hen⟩ := htu hfa
        have KI := Lib.hid (featsInOrder_any w2.heap.size n' D' us' (turnTo fs ds ds.length) w4 hown htl (hen.below hb4) (by omega) TL.out)
        have HFA := Lib.hid hfa
        clear hown htl hen hb4 htu hfa
        go_wp2_with fail
        refine KI.out.mono ?_
        rintro e w5 ⟨⟨v, ad, rfl, hbu⟩, _, hb5⟩
        have B5 : Hid (Below w.heap.size w w5) := B4.out.trans (hb5.mono B4.out.size)
        have hbu2 := hbu.mono (lo' := w.heap.size) B4.out.size
        have HBu := Lib.hid hbu2
        obtain ⟨la, lc, rfl, hLH⟩ := hbu2.listH
        have LR := Lib.hid hLH.reads
        clear hbu hbu2 hLH hb5 KI
        go_wp2_with fail
        refine (implSheetOk_any _ _ _ _ LR.out (by omega) TL.out).mono ?_
        rintro e w6 ⟨rfl, hb6⟩
        have B6 : Hid (Below w.heap.size w w6) := B5.out.trans (hb6.mono B5.out.size)
        replace HBu := Lib.hid (HBu.out.below hb6)
        clear hb6
        by_cases hto : sheetOk (turnTo fs ds ds.length) = true
        · rw [hto]
          have HF : Hid (doOk fs ds = true) := by show _ = _; rw [HO.out, HK.out, HKD.out, HFA.out, hto]; rfl
          have HG : Hid (doR fs ds = turnTo fs ds ds.length) := by show _ = _; unfold doR; rw [HF.out, if_pos rfl]
          clear hto
          go_wp2
          go_ret2
          rw [HF.out, HG.out]
          exact ⟨⟨_, ad, rfl, HBu.out⟩, B6.out⟩
        · have hto' : sheetOk (turnTo fs ds ds.length) = false := by simpa using hto
          rw [hto']
          have HF : Hid (doOk fs ds = false) := by show _ = _; rw [HO.out, hto']; simp
          clear hto hto'
          go_wp2
          go_ret2
          rw [HF.out, HN.out HF.out]
          exact ⟨⟨_, fun _ => ((none, 0), (none, 0)), rfl, built_none _ _ _ _⟩, B6.out⟩
      · have hfa' : fitsAll fs ds = false := by simpa using hfa
        rw [hfa']
        have HF : Hid (doOk fs ds = false) := by show _ = _; rw [HO.out, hfa']; simp
        clear hfa hfa' htu hb4
        go_wp2
        go_ret2
        rw [HF.out, HN.out HF.out]
        exact ⟨⟨_, fun _ => ((none, 0), (none, 0)), rfl, built_none _ _ _ _⟩, B4.out⟩
    · have hdo' : diffOk ds = false := by simpa using hdo
      rw [hdo']
      have HF : Hid (doOk fs ds = false) := by show _ = _; rw [HO.out, hdo']; simp
      clear hdo hdo' hok
      go_wp2
      go_ret2
      rw [HF.out, HN.out HF.out]
      exact ⟨⟨_, fun _ => ((none, 0), (none, 0)), rfl, built_none _ _ _ _⟩, B2.out⟩
  · have hok' : sheetOk fs = false := by simpa using hok
    rw [hok']
    have HF : Hid (doOk fs ds = false) := by show _ = _; rw [HO.out, hok']; simp
    clear hok hok'
    go_wp2
    go_ret2
    rw [HF.out, HN.out HF.out]
    exact ⟨⟨_, fun _ => ((none, 0), (none, 0)), rfl, built_none _ _ _ _⟩, B1.out⟩
end Go.Proofs.YtelimcknhaflfaaGreat

namespace Go.Proofs.YtelimcknhaflfaaGreat
set_option linter.unusedVariables false
open Go.ChangeShapes Go.WideShapes Go.ChangeAt Go.RowKit

/-- where the parts of a copied list lie -/
def plOf (fs : List Ft) (ad : Nat → Nat × Nat) (i : Nat) : Pl := ((some ⟨(ad i).1, 0, none⟩, (fps fs i).length), (some ⟨(ad i).2, 0, none⟩, (fts fs i).length))

theorem lies_of_row {fs : List Ft} {ad : Nat → Nat × Nat} {w : World} {b : Nat} {t : TypeId} (h : w.rowIs b t (fs.length * 4) (featCell fs ad)) (hp : Parts w b fs ad fs.length) : Lies w b 0 fs (plOf fs ad) ∧ Sep b fs.length (plOf fs ad) := by
  refine ⟨⟨fun i hi => ?_, fun i hi => ⟨h.frozen _, h.frozen _⟩, fun i hi => ⟨PtsAt.of_row (hp i hi).1, Soft.of_row (hp i hi).1⟩, fun i hi => ⟨TagsAt.of_row (hp i hi).2.1, Soft.of_row (hp i hi).2.1⟩, h.lt⟩, ?_⟩
  · obtain ⟨b', off', pa, pc, ta, tc, e, _, h1, h2, h3, h4, _⟩ := FeatsAt.of_row h hp i hi
    obtain ⟨rfl, rfl⟩ : b = b' ∧ 0 = off' := by simpa using e
    refine ⟨h1, h2, ?_, ?_⟩
    · have := h.cell (i := i * 4 + 2) (by omega)
      rw [Nat.zero_add, this]
      unfold featCell plOf
      rw [if_neg (by omega), if_neg (by omega), if_pos (by omega), show (i * 4 + 2) / 4 = i by omega]
    · have := h.cell (i := i * 4 + 3) (by omega)
      rw [Nat.zero_add, this]
      unfold featCell plOf
      rw [if_neg (by omega), if_neg (by omega), if_neg (by omega), show (i * 4 + 3) / 4 = i by omega]
  · refine ⟨fun i hi => ?_, fun i hi => ?_, fun i j hi hj hne => ?_⟩
    · obtain ⟨_, _, h3, h4, _⟩ := hp i hi
      constructor <;> (simp [plOf, blk]; omega)
    · obtain ⟨_, _, _, _, h5, _⟩ := hp i hi
      intro x hx e
      simp only [plOf, blk, Option.map_some, Option.some.injEq] at hx e
      omega
    · have key : ∀ i j, j < fs.length → i < j → (ad i).1 ≠ (ad j).1 ∧ (ad i).1 ≠ (ad j).2 ∧ (ad i).2 ≠ (ad j).1 ∧ (ad i).2 ≠ (ad j).2 := fun i j hj hij => by
        obtain ⟨_, _, _, _, _, h6⟩ := hp j hj
        have := h6 i hij
        omega
      have kk : (ad i).1 ≠ (ad j).1 ∧ (ad i).1 ≠ (ad j).2 ∧ (ad i).2 ≠ (ad j).1 ∧ (ad i).2 ≠ (ad j).2 := by
        rcases Nat.lt_or_gt_of_ne hne with h | h
        · exact key i j hj h
        · have := key j i hi h
          omega
      refine ⟨fun x hx e => ?_, fun x hx e => ?_, fun x hx e => ?_, fun x hx e => ?_⟩ <;> (simp only [plOf, blk, Option.map_some, Option.some.injEq] at hx e; omega)

theorem blocks_of_row {fs : List Ft} {ad : Nat → Nat × Nat} {w0 w : World} {b : Nat} {t : TypeId} (h : w.rowIs b t (fs.length * 4) (featCell fs ad)) (hp : Parts w b fs ad fs.length) (hb : w0.heap.size ≤ b) : ∀ x, blocksOf b fs.length (plOf fs ad) x → w0.heap.size ≤ x ∧ x < w.heap.size := by
  rintro x (rfl | ⟨i, hi, e | e⟩)
  · exact ⟨hb, h.lt⟩
  · obtain ⟨h1, _, h3, _⟩ := hp i hi
    have := h1.lt
    simp only [plOf, blk, Option.map_some, Option.some.injEq] at e
    omega
  · obtain ⟨_, h2, _, h4, _⟩ := hp i hi
    have := h2.lt
    simp only [plOf, blk, Option.map_some, Option.some.injEq] at e
    omega

theorem Box4.turned {w w' : World} {b : Nat} {v0 v1 v2 v3 : Value} {S : Nat → Prop} (h : Box4 w b v0 v1 v2 v3) (ht : Turned w w' S) (hn : ¬ S b) : Box4 w' b v0 v1 v2 v3 :=
  ⟨ht.cell h.1 hn, ht.cell h.2.1 hn, ht.cell h.2.2.1 hn, ht.cell h.2.2.2 hn⟩

theorem Turned.of_two {w w' : World} {a c : Option Addr} (h : Grown2 w w' a c) : Turned w w' (fun x => blk a = some x ∨ blk c = some x) := by
  obtain ⟨u, h1, h2⟩ := h
  exact (Turned.of_grown h1 fun x hx => .inl hx).trans (Turned.of_grown h2 fun x hx => .inr hx)

end Go.Proofs.YtelimcknhaflfaaGreat

namespace Go.Proofs.YtelimcknhaflfaaGreat
set_option linter.unusedVariables false
open Go.ChangeShapes Go.WideShapes Go.ChangeAt Go.RowKit

theorem doR_len (fs : List Ft) (ds : List Ch) : (doR fs ds).length ≤ 1048576 := by
  unfold doR
  split
  · rename_i h
    unfold doOk sheetOk at h
    simp only [Bool.and_eq_true, decide_eq_true_eq] at h
    omega
  · exact Nat.zero_le _
theorem doR_lens {fs : List Ft} {ds : List Ch} {m : Int} (h : FeatsLen fs m) (hd : ChLen ds m) : FeatsLen (doR fs ds) m := by
  unfold doR
  split
  · exact turnTo_lens h hd _ (Nat.le_refl _)
  · exact fun _ h => absurd h (Nat.not_lt_zero _)

set_option maxRecDepth 100000 in
set_option maxHeartbeats 8000000 in
theorem fnDiffDo_walk (a : Option Addr) (cap : Nat) (fs : List Ft) (a' : Option Addr) (cap' : Nat) (ds : List Ch) (w : World) (hf : FeatsIn w a fs) (hc : ChangesIn w a' ds) :
    Calls Tryz.prog 4 #[.slice a fs.length cap, .slice a' ds.length cap'] w fun e w' => e = .returned (.bool true) ∧ Below w.heap.size w w' := by
  have HF := Lib.hid hf
  have HC := Lib.hid hc
  clear hf hc
  go_enter Tryz.func4, Tryz.ntmps4
  go_wp2_with fail
  refine (szFeatS_any _ _ _ _ _ HF.out (by omega) (by omega)).mono ?_
  rintro e w1 ⟨⟨r, rfl, hs⟩, hb1⟩
  have B := Lib.hid hb1
  clear hb1
  rcases hs with rfl | ⟨r0, r1, l1, l2⟩
  · go_wp2
    go_ret
    exact ⟨rfl, B.out⟩
  have L2 : Hid (FeatsLen fs 1048576) := l2.mono (by omega)
  clear l2
  have m1 : fs.length ≤ 1048576 := by omega
  go_wp2_with fail
  refine (szChangeS_any _ _ _ _ _ (HC.out.below B.out) r0 (by omega)).mono ?_
  rintro e w2 ⟨⟨r', rfl, hs⟩, hn⟩
  replace B : Hid (Below w.heap.size w w2) := B.out.trans (hn.mono B.out.size)
  clear hn
  rcases hs with rfl | ⟨q0, q1, l1', l2⟩
  · go_wp2
    go_ret
    exact ⟨rfl, B.out⟩
  have L3 : Hid (ChLen ds 1048576) := l2.mono (by omega)
  clear l2
  have m2 : ds.length ≤ 1048576 := by omega
  go_wp2_with fail
  refine (toFeatS_any a cap fs _ (HF.out.reads.below B.out) m1 L2.out).mono ?_
  rintro e u1 ⟨b1, ad1, rfl, rr1, pp1, hx1, hn⟩
  replace B : Hid (Below w.heap.size w u1) := B.out.trans (hn.mono B.out.size)
  have H1 := Lib.hid (FeatsAt.of_row rr1 pp1)
  clear hn rr1 pp1 hx1
  go_wp2_with fail
  refine (toChangeS_any a' cap' ds _ (HC.out.reads.below B.out) m2 L3.out).mono ?_
  rintro e u2 ⟨b2, ad2, rfl, rr2, pp2, hx2, hn⟩
  replace B : Hid (Below w.heap.size w u2) := B.out.trans (hn.mono B.out.size)
  replace H1 := Lib.hid (H1.out.below hn)
  have H2 := Lib.hid (ChangesAt.of_row rr2 pp2)
  clear hn rr2 pp2 hx2
  go_wp2_with fail
  refine (specDiffDo_any _ _ fs _ _ ds _ H1.out m1 L2.out H2.out m2 L3.out).mono ?_
  rintro e u3 ⟨⟨v0, rfl, hg⟩, hn⟩
  have zw := B.out.size
  replace B : Hid (Below w.heap.size w u3) := B.out.trans (hn.mono B.out.size)
  have IG : Hid (∀ u x c x' c', FeatsAt u x fs → ChangesAt u x' ds → Calls Tryz.prog 19 #[.slice x fs.length c, .slice x' ds.length c'] u (ListAns u (doR fs ds) (doOk fs ds))) := fun u x c x' c' hx hx' => implDiffDo_any x c fs x' c' ds u hx m1 L2.out hx' m2 L3.out
  have mg : (doR fs ds).length ≤ 1048576 := doR_len fs ds
  have LG := Lib.hid (doR_lens L2.out L3.out)
  generalize doOk fs ds = ok at *
  generalize doR fs ds = gs at *
  obtain ⟨aw, cw, rfl, hg2⟩ := hg
  have G0 : Hid (GotL u2.heap.size u3.heap.size u3 (.slice aw gs.length cw) gs) := ⟨aw, cw, rfl, hg2⟩
  have z1 := hn.size
  clear hn H1 H2 hg2
  go_wp2_with fail
  refine (toFeatS_any a cap fs _ (HF.out.reads.below B.out) m1 L2.out).mono ?_
  rintro e u4 ⟨b3, ad3, rfl, rr3, pp3, hx3, hn⟩
  replace B : Hid (Below w.heap.size w u4) := B.out.trans (hn.mono B.out.size)
  replace G0 := Lib.hid (G0.out.below hn)
  have X0 := Lib.hid (lies_of_row rr3 pp3).1
  have XS := Lib.hid (lies_of_row rr3 pp3).2
  have XB := Lib.hid (blocks_of_row rr3 pp3 hx3)
  have z2 := hn.size
  clear hn rr3 pp3
  go_wp2_with fail
  refine (toChangeS_any a' cap' ds _ (HC.out.reads.below B.out) m2 L3.out).mono ?_
  rintro e u5 ⟨b4, ad4, rfl, rr4, pp4, hx4, hn⟩
  replace B : Hid (Below w.heap.size w u5) := B.out.trans (hn.mono B.out.size)
  replace G0 := Lib.hid (G0.out.below hn)
  replace X0 := Lib.hid (X0.out.below hn)
  have Y0 := Lib.hid (liesC_of_row rr4 pp4).1
  have YS := Lib.hid (liesC_of_row rr4 pp4).2
  have YB := Lib.hid (blocksC_of_row rr4 pp4 hx4)
  have z3 := hn.size
  clear hn rr4 pp4
  go_wp2_with fail
  refine (IG.out _ _ _ _ _ X0.out.reads Y0.out.reads).mono ?_
  rintro e u6 ⟨⟨v1, adg, rfl, hbu⟩, hn⟩
  obtain ⟨ga, gc, rfl, hLH⟩ := hbu.listH
  have LH := Lib.hid hLH
  replace B : Hid (Below w.heap.size w u6) := B.out.trans (hn.mono B.out.size)
  replace G0 := Lib.hid (G0.out.below hn)
  replace X0 := Lib.hid (X0.out.below hn)
  replace Y0 := Lib.hid (Y0.out.below hn)
  have z4 := hn.size
  clear hn hbu hLH
  have hne : (ok != ok) = false := by simp
  go_wp2_with fail
  refine (eqFeatS_any _ _ _ _ gs gs _ LH.out.reads G0.out.reads mg mg LG.out LG.out).mono ?_
  rintro e u7 ⟨rfl, hn⟩
  rw [show fsEq gs gs = true by simp [fsEq]]
  replace B : Hid (Below w.heap.size w u7) := B.out.trans (hn.mono B.out.size)
  replace G0 := Lib.hid (G0.out.below hn)
  replace X0 := Lib.hid (X0.out.below hn)
  replace Y0 := Lib.hid (Y0.out.below hn)
  replace LH := Lib.hid (LH.out.below hn)
  clear hn
  go_wp2_with fail
  refine (toFeatS_any a cap fs _ (HF.out.reads.below B.out) m1 L2.out).mono ?_
  rintro e u8 ⟨b8, ad8, rfl, rr8, pp8, _, hn⟩
  have H8 := Lib.hid (FeatsAt.of_row rr8 pp8)
  replace B : Hid (Below w.heap.size w u8) := B.out.trans (hn.mono B.out.size)
  replace G0 := Lib.hid (G0.out.below hn)
  replace X0 := Lib.hid (X0.out.below hn)
  replace Y0 := Lib.hid (Y0.out.below hn)
  replace LH := Lib.hid (LH.out.below hn)
  clear hn rr8 pp8
  go_wp2_with fail
  refine (eqFeatS_any _ _ _ _ fs fs _ X0.out.reads H8.out m1 m1 L2.out L2.out).mono ?_
  rintro e u9 ⟨rfl, hn⟩
  rw [show fsEq fs fs = true by simp [fsEq]]
  replace B : Hid (Below w.heap.size w u9) := B.out.trans (hn.mono B.out.size)
  replace G0 := Lib.hid (G0.out.below hn)
  replace X0 := Lib.hid (X0.out.below hn)
  replace Y0 := Lib.hid (Y0.out.below hn)
  replace LH := Lib.hid (LH.out.below hn)
  clear hn H8
  go_wp2_with fail
  refine (toChangeS_any a' cap' ds _ (HC.out.reads.below B.out) m2 L3.out).mono ?_
  rintro e v1 ⟨b9, ad9, rfl, rr9, pp9, _, hn⟩
  have H9 := Lib.hid (ChangesAt.of_row rr9 pp9)
  replace B : Hid (Below w.heap.size w v1) := B.out.trans (hn.mono B.out.size)
  replace G0 := Lib.hid (G0.out.below hn)
  replace X0 := Lib.hid (X0.out.below hn)
  replace Y0 := Lib.hid (Y0.out.below hn)
  replace LH := Lib.hid (LH.out.below hn)
  clear hn rr9 pp9
  go_wp2_with fail
  refine (eqChangeS_any _ _ _ _ ds ds _ Y0.out.reads H9.out m2 m2 L3.out L3.out).mono ?_
  rintro e v2 ⟨rfl, hn⟩
  rw [show csEq ds ds = true by simp [csEq]]
  replace B : Hid (Below w.heap.size w v2) := B.out.trans (hn.mono B.out.size)
  replace G0 := Lib.hid (G0.out.below hn)
  replace X0 := Lib.hid (X0.out.below hn)
  replace Y0 := Lib.hid (Y0.out.below hn)
  replace LH := Lib.hid (LH.out.below hn)
  clear hn H9
  go_wp2_with fail
  refine (markFeatS_some b3 0 _ fs _ 1 _ m1 L2.out (by omega) (by omega) X0.out XS.out).mono ?_
  rintro e v3 ⟨rfl, _, ht⟩
  replace B : Hid (Below w.heap.size w v3) := B.out.trans (ht.below B.out.size (fun x hx => by have := (XB.out x hx).1; omega))
  replace G0 := Lib.hid (G0.out.turned ht (fun x _ h2 h => by have := (XB.out x h).1; omega))
  replace Y0 := Lib.hid (Y0.out.turned ht (fun x hx h => by have h1 := (XB.out x h).2; have h2 := (YB.out x hx).1; omega))
  replace LH := Lib.hid (LH.out.turned ht (fun x h1 _ h => by have := (XB.out x h).2; omega))
  obtain ⟨kk0, kk1⟩ := lmk_le (k := 1) (by omega) (by omega) L2.out fs.length (Nat.le_refl _)
  generalize lmk fs 1 fs.length = kk at kk0 kk1
  clear ht X0 XS
  go_wp2_with fail
  refine (markChangeS_some b4 0 _ ds _ _ _ m2 L3.out kk0 (by omega) Y0.out YS.out).mono ?_
  rintro e v4 ⟨rfl, _, ht⟩
  replace B : Hid (Below w.heap.size w v4) := B.out.trans (ht.below B.out.size (fun x hx => by have := (YB.out x hx).1; omega))
  replace G0 := Lib.hid (G0.out.turned ht (fun x _ h2 h => by have := (YB.out x h).1; omega))
  replace LH := Lib.hid (LH.out.turned ht (fun x h1 _ h => by have := (YB.out x h).2; omega))
  have jj0 := (cmn_le (k := kk) kk0 (by omega) L3.out ds.length (Nat.le_refl _)).1
  generalize cmn ds kk ds.length = kj at jj0
  clear ht Y0 YS
  go_wp2_with fail
  refine (eqFeatS_any _ _ _ _ gs gs _ LH.out.reads G0.out.reads mg mg LG.out LG.out).mono ?_
  rintro e v5 ⟨rfl, hn⟩
  rw [show fsEq gs gs = true by simp [fsEq]]
  replace B : Hid (Below w.heap.size w v5) := B.out.trans (hn.mono B.out.size)
  replace G0 := Lib.hid (G0.out.below hn)
  replace LH := Lib.hid (LH.out.below hn)
  clear hn
  go_wp2_with fail
  refine (markFeatS_list _ _ _ _ gs 1 _ mg LG.out (by omega) (by omega) LH.out).mono ?_
  rintro e v6 ⟨rfl, hM, ht⟩
  have M := Lib.hid hM
  replace B : Hid (Below w.heap.size w v6) := B.out.trans (ht.below B.out.size (fun x hx => by have := hx.1; omega))
  replace G0 := Lib.hid (G0.out.turned ht (fun x _ h2 h => by have := h.1; omega))
  clear hM ht LH
  obtain ⟨j0, j1⟩ := lmk_le (k := 1) (by omega) (by omega) LG.out gs.length (Nat.le_refl _)
  have HH : Hid (∀ u c, FeatsAt u ga (lmkTo gs 1 gs.length) → Calls Tryz.prog 20 #[.slice ga gs.length c, .int .i64 1] u fun e w' => e = .returned (.int .i64 (lmk gs 1 gs.length)) ∧ Below u.heap.size u w') := fun u c h => heldFeatS_any ga c gs 1 u h mg LG.out (by omega) (by omega)
  generalize lmk gs 1 gs.length = jj at *
  generalize lmkTo gs 1 gs.length = ms at *
  have hq : (jj != jj) = false := by simp
  go_wp2_with fail
  refine (HH.out _ _ M.out).mono ?_
  rintro e v7 ⟨rfl, hn⟩
  replace B : Hid (Below w.heap.size w v7) := B.out.trans (hn.mono B.out.size)
  replace G0 := Lib.hid (G0.out.below hn)
  replace M := Lib.hid (M.out.below hn)
  clear hn
  go_wp2_with fail
  refine (toFeatS_any a cap fs _ (HF.out.reads.below B.out) m1 L2.out).mono ?_
  rintro e v8 ⟨c1, ae1, rfl, rs1, ps1, _, hn⟩
  have H1 := Lib.hid (FeatsAt.of_row rs1 ps1)
  replace B : Hid (Below w.heap.size w v8) := B.out.trans (hn.mono B.out.size)
  replace G0 := Lib.hid (G0.out.below hn)
  replace M := Lib.hid (M.out.below hn)
  clear hn rs1 ps1
  go_wp2_with fail
  refine (toChangeS_any a' cap' ds _ (HC.out.reads.below B.out) m2 L3.out).mono ?_
  rintro e v9 ⟨c2, ae2, rfl, rs2, ps2, _, hn⟩
  have H2 := Lib.hid (ChangesAt.of_row rs2 ps2)
  replace B : Hid (Below w.heap.size w v9) := B.out.trans (hn.mono B.out.size)
  replace G0 := Lib.hid (G0.out.below hn)
  replace M := Lib.hid (M.out.below hn)
  replace H1 := Lib.hid (H1.out.below hn)
  clear hn rs2 ps2
  go_wp2_with fail
  refine (IG.out _ _ _ _ _ H1.out H2.out).mono ?_
  rintro e x1 ⟨⟨v9', ad9, rfl, hbu⟩, hn⟩
  obtain ⟨ha, hc, rfl, hLH⟩ := hbu.listH
  have LH := Lib.hid hLH
  replace B : Hid (Below w.heap.size w x1) := B.out.trans (hn.mono B.out.size)
  replace G0 := Lib.hid (G0.out.below hn)
  replace M := Lib.hid (M.out.below hn)
  clear hn hbu hLH H1 H2
  go_wp2_with fail
  refine (eqFeatS_any _ _ _ _ gs gs _ LH.out.reads G0.out.reads mg mg LG.out LG.out).mono ?_
  rintro e x2 ⟨rfl, hn⟩
  rw [show fsEq gs gs = true by simp [fsEq]]
  replace B : Hid (Below w.heap.size w x2) := B.out.trans (hn.mono B.out.size)
  replace G0 := Lib.hid (G0.out.below hn)
  replace M := Lib.hid (M.out.below hn)
  clear hn LH
  go_wp2_with fail
  refine (HH.out _ _ M.out).mono ?_
  rintro e x3 ⟨rfl, hn⟩
  replace B : Hid (Below w.heap.size w x3) := B.out.trans (hn.mono B.out.size)
  replace G0 := Lib.hid (G0.out.below hn)
  replace M := Lib.hid (M.out.below hn)
  clear hn
  go_wp2
  go_ret
  exact ⟨rfl, B.out⟩

set_option maxRecDepth 100000 in
theorem fnExactDiffDo_lifted (os : Os) (started : os.Started) (H : Type) (enc : TypeId × Value → H) :
    ReturnsInHanded {} Tryz.checked os 4 .any (Rows.fnExactDiffDoSpec.pre6 enc Tryz.prog Tryz.f4 Rows.fnExactDiffDoRow.domain false) (Rows.fnExactDiffDoSpec.post enc Tryz.prog Tryz.f4 false true false false) := by
  refine returnsInHanded_of_change (C := Tryz.checked) own started (by kernel_rfl) Tryz.func4
    (ChangeSpec.witness6 (enc := enc) (C := Tryz.checked) false ⟨#[], #[.slice none 0 0, .slice none 0 0], []⟩ 8 (by kernel_rfl) (by kernel_rfl) (by kernel_rfl) (by kernel_rfl)) ?_
  intro W base args ds gs before hval0 hW _ _
  have hval : ∀ (j : Nat) t v, Tryz.f4.params[j]? = some t → args[j]? = some v → Value.okWide Tryz.prog W .any base t v := hval0
  have hW' := hW
  obtain ⟨p, q, hA0, hV, rfl, _, _⟩ := hW
  have hA : DataW.TrodAll enc Tryz.prog W 0 (fun _ => true) true Tryz.f4.params.toList args.toList ds p := hA0
  rw [Tryz.params4] at hA hval
  obtain ⟨v0, vs0, d0, ds0, p0, q0, hargs, rfl, rfl, h0, r0⟩ := trodAll_cons hA
  obtain ⟨v1, vs1, d1, ds1, p1, q1, rfl, rfl, rfl, h1, r1⟩ := trodAll_cons r0
  obtain ⟨rfl, rfl, rfl⟩ := trodAll_nil r1
  obtain rfl : args = #[v0, v1] := by cases args; simp_all
  obtain ⟨rfl, rfl⟩ := trodVars_none hV
  have k0 := h0
  have lt0 : ∀ x ∈ p0, x.block < W.heap.size := by obtain ⟨m, hm⟩ := k0; exact DataW.trod_lt m _ _ _ hm
  obtain ⟨a0, c0, s0, rfl, f0⟩ := open_feats (hval 0 22 v0 rfl rfl) h0
  have k1 := h1
  have lt1 : ∀ x ∈ p1, x.block < W.heap.size := by obtain ⟨m, hm⟩ := k1; exact DataW.trod_lt m _ _ _ hm
  obtain ⟨a1, c1, s1, rfl, f1⟩ := open_changes (hval 1 33 v1 rfl rfl) h1
  clear hA0 hval0
  refine (fnDiffDo_walk a0 c0 s0 a1 c1 s1 W f0 f1).mono fun e W' ⟨he, bel⟩ => ?_
  subst he
  exact ⟨_, rfl, _, _, _, [], _, [], hW', trodAll_mk1 (shut_bool Tryz.underlying4 _), (trodAll_cons_mk (Below.trod laidOut (by kernel_rfl) (of_decide_eq_true (by kernel_rfl)) k0 bel lt0) (trodAll_cons_mk (Below.trod laidOut (by kernel_rfl) (of_decide_eq_true (by kernel_rfl)) k1 bel lt1) trodAll_mk0)), rfl, bel.frame _, fun h => by cases h⟩

theorem fnExactDiffDo_over : Rows.fnExactDiffDoRow.holds Tryz.pinned (OpenSpec.ofChange Rows.fnExactDiffDoSpec) :=
  OpenClaim.holds_of_wide 4 Tryz.f4 rfl rfl rfl rfl rfl rfl rfl ⟨rfl, rfl, rfl, rfl, rfl⟩ rfl rfl rfl rfl rfl (by kernel_rfl) Tryz.func4 (by kernel_rfl)
    (of_decide_eq_true (by kernel_rfl)) (by unfold Func.isWrapper; first | (rw [if_pos (by decide +kernel)]; kernel_rfl) | (rw [if_neg (by decide +kernel)]; exact ⟨rfl, rfl⟩))
    (fun os started H enc _ => fnExactDiffDo_lifted os started H enc)

/-- the given statement -/
theorem fnExactDiffDo_holds : Rows.FnExactDiffDoSaid := fnExactDiffDo_over

end Go.Proofs.YtelimcknhaflfaaGreat
