/- Proved here: a list of changes whose parts lie apart, in memory that may be written, is read, turned cell by cell and part by part, and built by appending; no condition. -/
import Derived.Test.YtccgbengfmlgbaaGreatWMarkList
import Derived.Test.YtccgbengfmlgbaaGreatWChangeTo
import Derived.Deep.AppendLies
namespace Go.Proofs.YtccgbengfmlgbaaGreat
set_option linter.unusedVariables false
open Go.ChangeShapes Go.WideShapes Go.ChangeAt Go.RowKit Go.Deep

/-- where the four parts of a change lie, and how much room is there -/
abbrev PlC := Nat → Option Addr × Nat

/-- the cells of a change -/
def chv (c : Ch) (p : PlC) : Nat → Value
  | 0 => .string c.1
  | 1 => .bool c.2.1
  | 2 => .string c.2.2.1.1
  | 3 => .int .i64 c.2.2.1.2.1
  | 4 => .slice (p 0).1 c.2.2.1.2.2.1.length (p 0).2
  | 5 => .slice (p 1).1 c.2.2.1.2.2.2.length (p 1).2
  | 6 => .bool c.2.2.2.1
  | 7 => .string c.2.2.2.2.1
  | 8 => .int .i64 c.2.2.2.2.2.1
  | 9 => .slice (p 2).1 c.2.2.2.2.2.2.1.length (p 2).2
  | _ => .slice (p 3).1 c.2.2.2.2.2.2.2.length (p 3).2

/-- a part is there, and may be written -/
def PartC (w : World) (c : Ch) (p : PlC) : Nat → Prop
  | 0 => PtsAt w (p 0).1 c.2.2.1.2.2.1 ∧ Soft w (p 0).1 c.2.2.1.2.2.1.length
  | 1 => TagsAt w (p 1).1 c.2.2.1.2.2.2 ∧ Soft w (p 1).1 c.2.2.1.2.2.2.length
  | 2 => PtsAt w (p 2).1 c.2.2.2.2.2.2.1 ∧ Soft w (p 2).1 c.2.2.2.2.2.2.1.length
  | _ => TagsAt w (p 3).1 c.2.2.2.2.2.2.2 ∧ Soft w (p 3).1 c.2.2.2.2.2.2.2.length

theorem PartC.turned {w w' : World} {c : Ch} {p : PlC} {S : Nat → Prop} (ht : Turned w w' S) : ∀ {r : Nat}, r < 4 → PartC w c p r → (∀ x, blk (p r).1 = some x → ¬ S x) → PartC w' c p r
  | 0, _, h, hn => ⟨h.1.turned ht hn, h.2.turnedP h.1 ht hn⟩
  | 1, _, h, hn => ⟨h.1.turned ht hn, h.2.turnedT h.1 ht hn⟩
  | 2, _, h, hn => ⟨h.1.turned ht hn, h.2.turnedP h.1 ht hn⟩
  | 3, _, h, hn => ⟨h.1.turned ht hn, h.2.turnedT h.1 ht hn⟩

theorem PartC.below {w w' : World} {c : Ch} {p : PlC} (hb : Below w.heap.size w w') {r : Nat} (hr : r < 4) (h : PartC w c p r) : PartC w' c p r :=
  PartC.turned (S := fun _ => False) (Turned.of_below hb) hr h fun _ _ h => h

/-- changes that lie in memory of their own -/
structure LiesC (w : World) (b off : Nat) (ds : List Ch) (ad : Nat → PlC) : Prop where
  cell : ∀ i, i < ds.length → ∀ r, r < 11 → w.cell? ⟨b, off + i * 11 + r, none⟩ = some (chv (cg ds i) (ad i) r)
  soft : ∀ o, w.frozen? ⟨b, o, none⟩ = false
  part : ∀ i, i < ds.length → ∀ r, r < 4 → PartC w (cg ds i) (ad i) r
  lt : b < w.heap.size

/-- the parts lie apart -/
structure SepC (b n : Nat) (ad : Nat → PlC) : Prop where
  own : ∀ i r, i < n → r < 4 → blk (ad i r).1 ≠ some b
  far : ∀ i r j s, i < n → j < n → r < 4 → s < 4 → (i ≠ j ∨ r ≠ s) → Apart (ad i r).1 (ad j s).1

/-- the blocks of a list of changes -/
def blocksC (b n : Nat) (ad : Nat → PlC) (x : Nat) : Prop := x = b ∨ ∃ i r, i < n ∧ r < 4 ∧ blk (ad i r).1 = some x

theorem LiesC.reads {w : World} {b off : Nat} {ds : List Ch} {ad : Nat → PlC} (h : LiesC w b off ds ad) : ChangesAt w (some ⟨b, off, none⟩) ds := fun i hi =>
  ⟨b, off, _, _, _, _, _, _, _, _, rfl, h.lt, h.cell i hi 0 (by omega), h.cell i hi 1 (by omega), h.cell i hi 2 (by omega), h.cell i hi 3 (by omega), h.cell i hi 4 (by omega), h.cell i hi 5 (by omega), h.cell i hi 6 (by omega), h.cell i hi 7 (by omega), h.cell i hi 8 (by omega), h.cell i hi 9 (by omega), h.cell i hi 10 (by omega), (h.part i hi 0 (by omega)).1, (h.part i hi 1 (by omega)).1, (h.part i hi 2 (by omega)).1, (h.part i hi 3 (by omega)).1⟩

theorem LiesC.turned {w w' : World} {b off : Nat} {ds : List Ch} {ad : Nat → PlC} {S : Nat → Prop} (h : LiesC w b off ds ad) (ht : Turned w w' S) (hn : ∀ x, blocksC b ds.length ad x → ¬ S x) : LiesC w' b off ds ad :=
  ⟨fun i hi r hr => ht.cell (h.cell i hi r hr) (hn _ (.inl rfl)), fun o => (ht.frozen (a := ⟨b, _, none⟩) h.lt (hn _ (.inl rfl))).trans (h.soft o), fun i hi r hr => PartC.turned ht hr (h.part i hi r hr) fun x hx => hn x (.inr ⟨i, r, hi, hr, hx⟩), Nat.lt_of_lt_of_le h.lt ht.size⟩

theorem LiesC.below {w w' : World} {b off : Nat} {ds : List Ch} {ad : Nat → PlC} (h : LiesC w b off ds ad) (hb : Below w.heap.size w w') : LiesC w' b off ds ad :=
  h.turned (S := fun _ => False) (Turned.of_below hb) fun _ _ h => h

theorem cg_set {ds : List Ch} {j : Nat} (c : Ch) (hj : j < ds.length) : cg (ds.set j c) j = c := by simp [cg, hj]
theorem cg_set_ne {ds : List Ch} {i j : Nat} (c : Ch) (h : i ≠ j) : cg (ds.set j c) i = cg ds i := by simp [cg, List.getElem?_set_ne (Ne.symm h)]

/-- one cell of a change written -/
theorem LiesC.setC {w : World} {b off : Nat} {ds : List Ch} {ad : Nat → PlC} {j : Nat} {c c' : Ch} {r : Nat} {v : Value} (h : LiesC w b off (ds.set j c) ad) (hs : SepC b ds.length ad) (hj : j < ds.length) (hr : r < 11)
    (hv : ∀ q, q < 11 → chv c' (ad j) q = if q = r then v else chv c (ad j) q) (hp : ∀ u q, q < 4 → PartC u c (ad j) q → PartC u c' (ad j) q) :
    LiesC (w.setCell ⟨b, off + j * 11 + r, none⟩ v) b off (ds.set j c') ad := by
  have ht : Turned w (w.setCell ⟨b, off + j * 11 + r, none⟩ v) (fun x => x = b) := Turned.of_set w _ _ rfl
  have hl : (ds.set j c).length = ds.length := List.length_set
  have hl' : (ds.set j c').length = ds.length := List.length_set
  refine ⟨fun i hi q hq => ?_, fun o => by rw [World.frozen?_setCell]; exact h.soft o, fun i hi q hq => ?_, by simpa [World.setCell] using h.lt⟩
  · rw [hl'] at hi
    have h0 := h.cell i (by rw [hl]; exact hi) q hq
    by_cases e : i = j
    · subst e
      rw [cg_set _ hj] at h0 ⊢
      rw [hv q hq]
      by_cases e2 : q = r
      · subst e2
        rw [if_pos rfl]
        exact World.cell?_setCell_same _ _ _ h0
      · rw [if_neg e2, World.cell?_setCell_other _ _ _ _ (by simp <;> omega)]
        exact h0
    · rw [cg_set_ne _ e] at h0 ⊢
      rw [World.cell?_setCell_other _ _ _ _ (by simp <;> omega)]
      exact h0
  · rw [hl'] at hi
    have h0 := h.part i (by rw [hl]; exact hi) q hq
    have h1 := PartC.turned ht hq h0 fun x hx e => hs.own i q hi hq (e ▸ hx)
    by_cases e : i = j
    · subst e
      rw [cg_set _ hj] at h1 ⊢
      exact hp _ q hq h1
    · rw [cg_set_ne _ e] at h1 ⊢
      exact h1

/-- one part of a change written -/
theorem LiesC.setP {w w' : World} {b off : Nat} {ds : List Ch} {ad : Nat → PlC} {j : Nat} {c c' : Ch} {r : Nat} (h : LiesC w b off (ds.set j c) ad) (hs : SepC b ds.length ad) (hj : j < ds.length) (hr : r < 4) (hg : w.grownBy w' (blk (ad j r).1))
    (hv : ∀ q, q < 11 → chv c' (ad j) q = chv c (ad j) q) (hn : PartC w' c' (ad j) r) (hp : ∀ u q, q < 4 → q ≠ r → PartC u c (ad j) q → PartC u c' (ad j) q) :
    LiesC w' b off (ds.set j c') ad := by
  have ht : Turned w w' (fun x => blk (ad j r).1 = some x) := Turned.of_grown hg fun x hx => hx
  have hl : (ds.set j c).length = ds.length := List.length_set
  have hl' : (ds.set j c').length = ds.length := List.length_set
  have nb : ¬ blk (ad j r).1 = some b := hs.own j r hj hr
  refine ⟨fun i hi q hq => ?_, fun o => (ht.frozen (a := ⟨b, _, none⟩) h.lt nb).trans (h.soft o), fun i hi q hq => ?_, Nat.lt_of_lt_of_le h.lt ht.size⟩
  · rw [hl'] at hi
    have h0 := ht.cell (h.cell i (by rw [hl]; exact hi) q hq) nb
    by_cases e : i = j
    · subst e
      rw [cg_set _ hj] at h0 ⊢
      rw [hv q hq]
      exact h0
    · rw [cg_set_ne _ e] at h0 ⊢
      exact h0
  · rw [hl'] at hi
    by_cases e2 : i = j ∧ q = r
    · obtain ⟨rfl, rfl⟩ := e2
      rw [cg_set _ hj]
      exact hn
    · have h0 := h.part i (by rw [hl]; exact hi) q hq
      have h1 := PartC.turned ht hq h0 fun x hx e => hs.far i q j r hi hj hq hr (by omega) x hx e
      by_cases e : i = j
      · subst e
        rw [cg_set _ hj] at h1 ⊢
        exact hp _ q hq (fun e => e2 ⟨rfl, e⟩) h1
      · rw [cg_set_ne _ e] at h1 ⊢
        exact h1

/-- the places of what 'toChangeS' made -/
def plOfC (ds : List Ch) (ad : Nat → Nat4) (i : Nat) : PlC
  | 0 => (some ⟨(ad i).1, 0, none⟩, (cwf ds i).2.2.1.length)
  | 1 => (some ⟨(ad i).2.1, 0, none⟩, (cwf ds i).2.2.2.length)
  | 2 => (some ⟨(ad i).2.2.1, 0, none⟩, (cnf ds i).2.2.1.length)
  | _ => (some ⟨(ad i).2.2.2, 0, none⟩, (cnf ds i).2.2.2.length)

theorem blk_plOfC (ds : List Ch) (ad : Nat → Nat4) (i : Nat) {r : Nat} (hr : r < 4) {x : Nat} (h : blk (plOfC ds ad i r).1 = some x) :
    (r = 0 ∧ x = (ad i).1) ∨ (r = 1 ∧ x = (ad i).2.1) ∨ (r = 2 ∧ x = (ad i).2.2.1) ∨ (r = 3 ∧ x = (ad i).2.2.2) := by
  rcases r with _ | _ | _ | _ | r
  · simp [plOfC, blk] at h; omega
  · simp [plOfC, blk] at h; omega
  · simp [plOfC, blk] at h; omega
  · simp [plOfC, blk] at h; omega
  · omega

theorem liesC_of_row {ds : List Ch} {ad : Nat → Nat4} {w : World} {b : Nat} {t : TypeId} (h : w.rowIs b t (ds.length * 11) (chCell ds ad)) (hp : PartsC w b ds ad ds.length) : LiesC w b 0 ds (plOfC ds ad) ∧ SepC b ds.length (plOfC ds ad) := by
  refine ⟨⟨fun i hi r hr => ?_, fun o => h.frozen _, fun i hi r hr => ?_, h.lt⟩, ⟨fun i r hi hr e => ?_, fun i r j s hi hj hr hs hne x hx hy => ?_⟩⟩
  · rw [Nat.zero_add, h.cell (i := i * 11 + r) (by omega), chCell_at _ _ _ _ hr]
    rcases r with _ | _ | _ | _ | _ | _ | _ | _ | _ | _ | _ | r <;> first | rfl | omega
  · obtain ⟨q, _⟩ := hp i hi
    rcases r with _ | _ | _ | _ | r
    · exact ⟨PtsAt.of_row q.r1, Soft.of_row q.r1⟩
    · exact ⟨TagsAt.of_row q.r2, Soft.of_row q.r2⟩
    · exact ⟨PtsAt.of_row q.r3, Soft.of_row q.r3⟩
    · exact ⟨TagsAt.of_row q.r4, Soft.of_row q.r4⟩
    · omega
  · have := (hp i hi).1.far
    have := blk_plOfC ds ad i hr e
    omega
  · have h1 := blk_plOfC ds ad i hr hx
    have h2 := blk_plOfC ds ad j hs hy
    have a1 := (hp i hi).1.apart
    have a2 := (hp j hj).1.apart
    by_cases e : i = j
    · subst e
      omega
    · rcases Nat.lt_or_gt_of_ne e with q | q
      · have := (hp j hj).2 i q
        omega
      · have := (hp i hi).2 j q
        omega

theorem blocksC_of_row {ds : List Ch} {ad : Nat → Nat4} {w : World} {b lo : Nat} {t : TypeId} (h : w.rowIs b t (ds.length * 11) (chCell ds ad)) (hp : PartsC w b ds ad ds.length) (hb : lo ≤ b) : ∀ x, blocksC b ds.length (plOfC ds ad) x → lo ≤ x ∧ x < w.heap.size := by
  rintro x (rfl | ⟨i, r, hi, hr, e⟩)
  · exact ⟨hb, h.lt⟩
  · have h1 := blk_plOfC ds ad i hr e
    have h2 := (hp i hi).1.far
    have h3 := (hp i hi).1.lt
    omega

/-- the cells of a change, in a row -/
def cellsC (c : Ch) (p : PlC) : List Value := [.string c.1, .bool c.2.1, .string c.2.2.1.1, .int .i64 c.2.2.1.2.1, .slice (p 0).1 c.2.2.1.2.2.1.length (p 0).2, .slice (p 1).1 c.2.2.1.2.2.2.length (p 1).2, .bool c.2.2.2.1, .string c.2.2.2.2.1, .int .i64 c.2.2.2.2.2.1, .slice (p 2).1 c.2.2.2.2.2.2.1.length (p 2).2, .slice (p 3).1 c.2.2.2.2.2.2.2.length (p 3).2]
def flatC (ds : List Ch) (ad : Nat → PlC) (k : Nat) : List Value := (List.range k).flatMap fun i => cellsC (cg ds i) (ad i)
def plSetC (ad : Nat → PlC) (k : Nat) (p : PlC) : Nat → PlC := fun i => if i = k then p else ad i

theorem plSetC_at (ad : Nat → PlC) (k : Nat) (p : PlC) : plSetC ad k p k = p := if_pos rfl
theorem plSetC_lt {ad : Nat → PlC} {k i : Nat} {p : PlC} (h : i < k) : plSetC ad k p i = ad i := if_neg (by omega)
theorem flatC_succ (ds : List Ch) (ad : Nat → PlC) (k : Nat) : flatC ds ad (k + 1) = flatC ds ad k ++ cellsC (cg ds k) (ad k) := by simp [flatC, List.range_succ, List.flatMap_append]
theorem flatC_len (ds : List Ch) (ad : Nat → PlC) : ∀ k, (flatC ds ad k).length = k * 11
  | 0 => rfl
  | k + 1 => by
    rw [flatC_succ, List.length_append, flatC_len ds ad k]
    simp [cellsC]
    omega
theorem flatC_at (ds : List Ch) (ad : Nat → PlC) : ∀ k i o, i < k → o < 11 → (flatC ds ad k)[i * 11 + o]? = some (chv (cg ds i) (ad i) o)
  | 0, i, o, hi, _ => absurd hi (Nat.not_lt_zero _)
  | k + 1, i, o, hi, ho => by
    rw [flatC_succ]
    have hl := flatC_len ds ad k
    by_cases e : i = k
    · subst e
      rw [List.getElem?_append_right (by omega), hl, show i * 11 + o - i * 11 = o by omega]
      rcases o with _ | _ | _ | _ | _ | _ | _ | _ | _ | _ | _ | o <;> first | rfl | omega
    · rw [List.getElem?_append_left (by omega)]
      exact flatC_at ds ad k i o (by omega) ho
theorem flatC_set (ds : List Ch) (ad : Nat → PlC) (p : PlC) (n : Nat) : ∀ k, k ≤ n → flatC ds (plSetC ad n p) k = flatC ds ad k
  | 0, _ => rfl
  | k + 1, h => by rw [flatC_succ, flatC_succ, flatC_set ds ad p n k (by omega), plSetC_lt (by omega)]

/-- the blocks of a change's parts -/
def inPartC (p : PlC) (x : Nat) : Prop := ∃ r, r < 4 ∧ blk (p r).1 = some x

/-- a list of changes that is being built -/
structure BuiltC (w : World) (lo : Nat) (v : Value) (k : Nat) (ds : List Ch) (ad : Nat → PlC) : Prop where
  row : w.ownsRow lo 102 11 v k (flatC ds ad k)
  part : ∀ i, i < k → ∀ r, r < 4 → PartC w (cg ds i) (ad i) r
  rng : ∀ i, i < k → ∀ x, inPartC (ad i) x → lo ≤ x ∧ x < w.heap.size ∧ v.ownBlock ≠ some x
  two : ∀ i, i < k → ∀ r s, r < 4 → s < 4 → r ≠ s → Apart (ad i r).1 (ad i s).1
  far : ∀ i j, i < j → j < k → ∀ x, inPartC (ad i) x → ¬ inPartC (ad j) x

theorem builtC_none (w : World) (lo : Nat) (ds : List Ch) (ad : Nat → PlC) : BuiltC w lo (.slice none 0 0) 0 ds ad :=
  ⟨World.ownsRow_nil _ _ _ _, fun _ h => absurd h (Nat.not_lt_zero _), fun _ h => absurd h (Nat.not_lt_zero _), fun _ h => absurd h (Nat.not_lt_zero _), fun _ _ _ h => absurd h (Nat.not_lt_zero _)⟩

theorem BuiltC.below {w w' : World} {lo : Nat} {v : Value} {k : Nat} {ds : List Ch} {ad : Nat → PlC} (h : BuiltC w lo v k ds ad) (hb : Below w.heap.size w w') : BuiltC w' lo v k ds ad :=
  ⟨ownsRow_below h.row hb, fun i hi r hr => PartC.below hb hr (h.part i hi r hr), fun i hi x hx => ⟨(h.rng i hi x hx).1, Nat.lt_of_lt_of_le (h.rng i hi x hx).2.1 hb.size, (h.rng i hi x hx).2.2⟩, h.two, h.far⟩

/-- one more change, appended -/
theorem BuiltC.step {wr w3 wb wa : World} {lo : Nat} {v : Value} {k : Nat} {ds : List Ch} {ad : Nat → PlC} {p : PlC} {gg cap' : Nat} (h : BuiltC wr lo v k ds ad) (hlo : lo ≤ wr.heap.size) (hb : Below wr.heap.size wr w3) (h3 : Below w3.heap.size w3 wb)
    (hp : ∀ r, r < 4 → PartC w3 (cg ds k) p r) (hpf : ∀ r, r < 4 → Fresh wr w3 (p r).1) (hap : ∀ r s, r < 4 → s < 4 → r ≠ s → Apart (p r).1 (p s).1)
    (hrow : wa.ownsRow lo 102 11 (.slice (some ⟨gg, 0, none⟩) (k + 1) cap') (k + 1) (flatC ds ad k ++ cellsC (cg ds k) p)) (hg : wb.grownBy wa v.ownBlock) (hat : v.ownBlock = some gg ∨ w3.heap.size ≤ gg) :
    BuiltC wa lo (.slice (some ⟨gg, 0, none⟩) (k + 1) cap') (k + 1) ds (plSetC ad k p) := by
  have hbb : Below wr.heap.size wr wb := hb.trans (h3.mono hb.size)
  have hB := h.below hbb
  have hvl : ∀ x, v.ownBlock = some x → x < wr.heap.size := fun x hx => (h.row.lt x hx).2
  have ht' : Turned wb wa (fun x => v.ownBlock = some x) := Turned.of_grown hg fun x hx => hx
  have hwz := hg.size
  have h3z := h3.size
  have hfr : ∀ x, inPartC p x → wr.heap.size ≤ x ∧ x < w3.heap.size := fun x ⟨r, hr, hx⟩ => hpf r hr x hx
  have hs3 := hb.size
  have nv : ∀ x, inPartC p x → ¬ v.ownBlock = some x := fun x hx e => by have h1 := (hfr x hx).1; have h2 := hvl x e; omega
  have gne : ∀ x, x < w3.heap.size → ¬ v.ownBlock = some x → gg ≠ x := fun x hx hn e => by
    rcases hat with h1 | h1
    · exact hn (by rw [h1, e])
    · omega
  have own' : ∀ x, (Value.slice (some ⟨gg, 0, none⟩) (k + 1) cap').ownBlock = some x → gg = x := fun x hx => by simpa [Value.ownBlock] using hx
  refine ⟨?_, fun i hi r hr => ?_, fun i hi x hx => ?_, fun i hi => ?_, fun i j hij hj x hx hy => ?_⟩
  · rw [flatC_succ, flatC_set _ _ _ _ _ (Nat.le_refl _), plSetC_at]
    exact hrow
  · by_cases e : i = k
    · subst e
      rw [plSetC_at]
      exact PartC.turned ht' hr (PartC.below h3 hr (hp r hr)) fun x hx => nv x ⟨r, hr, hx⟩
    · rw [plSetC_lt (by omega)]
      exact PartC.turned ht' hr (hB.part i (by omega) r hr) fun x hx e => (h.rng i (by omega) x ⟨r, hr, hx⟩).2.2 e
  · by_cases e : i = k
    · subst e
      rw [plSetC_at] at hx
      obtain ⟨q1, q2⟩ := hfr x hx
      exact ⟨by omega, by omega, fun e => gne x q2 (nv x hx) (own' x e)⟩
    · rw [plSetC_lt (by omega)] at hx
      obtain ⟨q1, q2, q3⟩ := h.rng i (by omega) x hx
      exact ⟨q1, by omega, fun e => gne x (by omega) q3 (own' x e)⟩
  · by_cases e : i = k
    · subst e
      rw [plSetC_at]
      exact hap
    · rw [plSetC_lt (by omega)]
      exact h.two i (by omega)
  · rw [plSetC_lt (by omega)] at hx
    by_cases e : j = k
    · subst e
      rw [plSetC_at] at hy
      have h1 := (hfr x hy).1
      have h2 := (h.rng i (by omega) x hx).2.1
      omega
    · rw [plSetC_lt (by omega)] at hy
      exact h.far i j hij (by omega) x hx hy

/-- a built list lies in memory of its own -/
theorem BuiltC.lies {w : World} {lo b cap : Nat} {ds : List Ch} {ad : Nat → PlC} (h : BuiltC w lo (.slice (some ⟨b, 0, none⟩) ds.length cap) ds.length ds ad) : LiesC w b 0 ds ad ∧ SepC b ds.length ad ∧ (∀ x, blocksC b ds.length ad x → lo ≤ x ∧ x < w.heap.size) := by
  obtain ⟨h1, ⟨h2, _⟩ | ⟨g, cap2, cur, e, hb, hg, hc, hm, hs, hx⟩⟩ := h.row
  · simp at h2
  · obtain ⟨rfl, rfl⟩ : b = g ∧ cap = cap2 := by simpa using e
    have hlt : b < w.heap.size := (Array.getElem?_eq_some_iff.1 hg).1
    have cell : ∀ j v, j < ds.length * 11 → (flatC ds ad ds.length)[j]? = some v → w.cell? ⟨b, 0 + j, none⟩ = some v := by
      intro j v hj hv
      rw [← hx, List.getElem?_take, if_pos hj] at hv
      simp only [World.cell?, hg, Option.isSome_none, Bool.false_eq_true, if_false, Nat.zero_add]
      simpa using hv
    refine ⟨⟨fun i hi r hr => ?_, fun o => ?_, h.part, hlt⟩, ⟨fun i r hi hr e => (h.rng i hi b ⟨r, hr, e⟩).2.2 rfl, fun i r j s hi hj hr hs hne => ?_⟩, ?_⟩
    · have := cell (i * 11 + r) _ (by omega) (flatC_at ds ad ds.length i r hi hr)
      rwa [← Nat.add_assoc] at this
    · simp [World.frozen?, hg]
    · by_cases e : i = j
      · subst e
        exact h.two i hi r s hr hs (by omega)
      · intro x hx hy
        rcases Nat.lt_or_gt_of_ne e with q | q
        · exact h.far i j q hj x ⟨r, hr, hx⟩ ⟨s, hs, hy⟩
        · exact h.far j i q hi x ⟨s, hs, hy⟩ ⟨r, hr, hx⟩
    · rintro x (rfl | ⟨i, r, hi, hr, e⟩)
      · exact ⟨hb, hlt⟩
      · exact ⟨(h.rng i hi x ⟨r, hr, e⟩).1, (h.rng i hi x ⟨r, hr, e⟩).2.1⟩

/-- a list of changes that lies in memory of its own between these blocks -/
def ListHC (lo hi : Nat) (w : World) (a : Option Addr) (ds : List Ch) : Prop :=
  ds = [] ∨ ∃ b ad, a = some ⟨b, 0, none⟩ ∧ LiesC w b 0 ds ad ∧ SepC b ds.length ad ∧ ∀ x, blocksC b ds.length ad x → lo ≤ x ∧ x < hi

theorem BuiltC.listH {w : World} {lo : Nat} {v : Value} {ds : List Ch} {ad : Nat → PlC} (h : BuiltC w lo v ds.length ds ad) : ∃ a cap, v = .slice a ds.length cap ∧ ListHC lo w.heap.size w a ds := by
  obtain ⟨h1, ⟨h2, h3⟩ | ⟨b, cap, cur, rfl, _⟩⟩ := h.row
  · exact ⟨none, 0, by rw [h2, h3], .inl (List.eq_nil_of_length_eq_zero h3)⟩
  · exact ⟨some ⟨b, 0, none⟩, cap, rfl, .inr ⟨b, ad, rfl, h.lies.1, h.lies.2.1, h.lies.2.2⟩⟩

theorem ListHC.reads {lo hi : Nat} {w : World} {a : Option Addr} {ds : List Ch} (h : ListHC lo hi w a ds) : ChangesAt w a ds := by
  rcases h with rfl | ⟨b, ad, rfl, h, _⟩
  · exact ChangesAt.nil _ _
  · exact h.reads

theorem ListHC.turned {lo hi : Nat} {w w' : World} {a : Option Addr} {ds : List Ch} {S : Nat → Prop} (h : ListHC lo hi w a ds) (ht : Turned w w' S) (hS : ∀ x, lo ≤ x → x < hi → ¬ S x) : ListHC lo hi w' a ds := by
  rcases h with rfl | ⟨b, ad, rfl, h, h2, h3⟩
  · exact .inl rfl
  · exact .inr ⟨b, ad, rfl, h.turned ht (fun x hx => hS x (h3 x hx).1 (h3 x hx).2), h2, h3⟩

theorem ListHC.below {lo hi : Nat} {w w' : World} {a : Option Addr} {ds : List Ch} (h : ListHC lo hi w a ds) (hb : Below w.heap.size w w') : ListHC lo hi w' a ds := h.turned (S := fun _ => False) (Turned.of_below hb) fun _ _ _ h => h
end Go.Proofs.YtccgbengfmlgbaaGreat
