/- Proved here: a list of things that is built by appending copies, its parts apart from each other and from the row; no condition. -/
import Derived.Test.YtjphlpjippojiaaGreatWMarkListW
import Derived.Test.YtjphlpjippojiaaGreatWSheetGetI
namespace Go.Proofs.YtjphlpjippojiaaGreat
set_option linter.unusedVariables false
open Go.ChangeShapes Go.WideShapes Go.ChangeAt Go.RowKit Go.Deep

/-- a thing's cells -/
def cellsF (f : Ft) (p : Pl) : List Value := [.string f.1, .int .i64 f.2.1, .slice p.1.1 f.2.2.1.length p.1.2, .slice p.2.1 f.2.2.2.length p.2.2]
/-- the cells of the first things -/
def flatF (fs : List Ft) (ad : Nat → Pl) (k : Nat) : List Value := (List.range k).flatMap fun i => cellsF (fg fs i) (ad i)
/-- one more place -/
def plSet (ad : Nat → Pl) (k : Nat) (p : Pl) : Nat → Pl := fun i => if i = k then p else ad i

theorem plSet_at (ad : Nat → Pl) (k : Nat) (p : Pl) : plSet ad k p k = p := if_pos rfl
theorem plSet_lt {ad : Nat → Pl} {k i : Nat} {p : Pl} (h : i < k) : plSet ad k p i = ad i := if_neg (by omega)

theorem flatF_succ (fs : List Ft) (ad : Nat → Pl) (k : Nat) : flatF fs ad (k + 1) = flatF fs ad k ++ cellsF (fg fs k) (ad k) := by simp [flatF, List.range_succ, List.flatMap_append]
theorem flatF_len (fs : List Ft) (ad : Nat → Pl) : ∀ k, (flatF fs ad k).length = k * 4
  | 0 => rfl
  | k + 1 => by
    rw [flatF_succ, List.length_append, flatF_len fs ad k]
    simp [cellsF]
    omega
theorem flatF_at (fs : List Ft) (ad : Nat → Pl) : ∀ k i o, i < k → o < 4 → (flatF fs ad k)[i * 4 + o]? = (cellsF (fg fs i) (ad i))[o]?
  | 0, i, o, hi, _ => absurd hi (Nat.not_lt_zero _)
  | k + 1, i, o, hi, ho => by
    rw [flatF_succ]
    have hl := flatF_len fs ad k
    by_cases e : i = k
    · subst e
      rw [List.getElem?_append_right (by omega), hl, show i * 4 + o - i * 4 = o by omega]
    · rw [List.getElem?_append_left (by omega)]
      exact flatF_at fs ad k i o (by omega) ho
theorem flatF_set (fs : List Ft) (ad : Nat → Pl) (p : Pl) (n : Nat) : ∀ k, k ≤ n → flatF fs (plSet ad n p) k = flatF fs ad k
  | 0, _ => rfl
  | k + 1, h => by rw [flatF_succ, flatF_succ, flatF_set fs ad p n k (by omega), plSet_lt (by omega)]

/-- the blocks of a thing's parts -/
def inPart (p : Pl) (x : Nat) : Prop := blk p.1.1 = some x ∨ blk p.2.1 = some x

/-- a list that is being built -/
structure Built (w : World) (lo : Nat) (v : Value) (k : Nat) (fs : List Ft) (ad : Nat → Pl) : Prop where
  row : w.ownsRow lo 29 4 v k (flatF fs ad k)
  pts : ∀ i, i < k → PtsAt w (ad i).1.1 (fps fs i) ∧ Soft w (ad i).1.1 (fps fs i).length
  tags : ∀ i, i < k → TagsAt w (ad i).2.1 (fts fs i) ∧ Soft w (ad i).2.1 (fts fs i).length
  rng : ∀ i, i < k → ∀ x, inPart (ad i) x → lo ≤ x ∧ x < w.heap.size ∧ v.ownBlock ≠ some x
  two : ∀ i, i < k → Apart (ad i).1.1 (ad i).2.1
  far : ∀ i j, i < j → j < k → ∀ x, inPart (ad i) x → ¬ inPart (ad j) x

theorem built_none (w : World) (lo : Nat) (fs : List Ft) (ad : Nat → Pl) : Built w lo (.slice none 0 0) 0 fs ad :=
  ⟨World.ownsRow_nil _ _ _ _, fun _ h => absurd h (Nat.not_lt_zero _), fun _ h => absurd h (Nat.not_lt_zero _), fun _ h => absurd h (Nat.not_lt_zero _), fun _ h => absurd h (Nat.not_lt_zero _), fun _ _ _ h => absurd h (Nat.not_lt_zero _)⟩

theorem Built.below {w w' : World} {lo : Nat} {v : Value} {k : Nat} {fs : List Ft} {ad : Nat → Pl} (h : Built w lo v k fs ad) (hb : Below w.heap.size w w') : Built w' lo v k fs ad :=
  ⟨ownsRow_below h.row hb, fun i hi => ⟨(h.pts i hi).1.below hb, (h.pts i hi).2.below (h.pts i hi).1 hb⟩, fun i hi => ⟨(h.tags i hi).1.below hb, (h.tags i hi).2.belowT (h.tags i hi).1 hb⟩, fun i hi x hx => ⟨(h.rng i hi x hx).1, Nat.lt_of_lt_of_le (h.rng i hi x hx).2.1 hb.size, (h.rng i hi x hx).2.2⟩, h.two, h.far⟩

/-- one more thing, appended -/
theorem Built.step {wr w3 wb wa : World} {lo : Nat} {v : Value} {k : Nat} {fs : List Ft} {ad : Nat → Pl} {p : Pl} {gg cap' : Nat} (h : Built wr lo v k fs ad) (hlo : lo ≤ wr.heap.size) (hb : Below wr.heap.size wr w3) (h3 : Below w3.heap.size w3 wb) (hz : wb.heap.size = w3.heap.size + 1)
    (hp : PtsAt w3 p.1.1 (fps fs k)) (hps : Soft w3 p.1.1 (fps fs k).length) (hpf : Fresh wr w3 p.1.1) (ht : TagsAt w3 p.2.1 (fts fs k)) (hts : Soft w3 p.2.1 (fts fs k).length) (htf : Fresh wr w3 p.2.1) (hap : Apart p.1.1 p.2.1)
    (hrow : wa.ownsRow lo 29 4 (.slice (some ⟨gg, 0, none⟩) (k + 1) cap') (k + 1) (flatF fs ad k ++ cellsF (fg fs k) p)) (hg : wb.grownBy wa v.ownBlock) (hat : v.ownBlock = some gg ∨ gg = w3.heap.size + 1) :
    Built wa lo (.slice (some ⟨gg, 0, none⟩) (k + 1) cap') (k + 1) fs (plSet ad k p) := by
  have hbb : Below wr.heap.size wr wb := hb.trans (h3.mono hb.size)
  have hB := h.below hbb
  have hvl : ∀ x, v.ownBlock = some x → x < wr.heap.size := fun x hx => (h.row.lt x hx).2
  have ht' : Turned wb wa (fun x => v.ownBlock = some x) := Turned.of_grown hg fun x hx => hx
  have hwz := hg.size
  have hfr : ∀ x, inPart p x → wr.heap.size ≤ x ∧ x < w3.heap.size := fun x hx => hx.elim (hpf x) (htf x)
  have hs3 := hb.size
  have nv : ∀ x, inPart p x → ¬ v.ownBlock = some x := fun x hx e => by have h1 := (hfr x hx).1; have h2 := hvl x e; omega
  have gne : ∀ x, x < w3.heap.size → ¬ v.ownBlock = some x → gg ≠ x := fun x hx hn e => by
    rcases hat with h1 | h1
    · exact hn (by rw [h1, e])
    · omega
  have own' : ∀ x, (Value.slice (some ⟨gg, 0, none⟩) (k + 1) cap').ownBlock = some x → gg = x := fun x hx => by simpa [Value.ownBlock] using hx
  refine ⟨?_, fun i hi => ?_, fun i hi => ?_, fun i hi x hx => ?_, fun i hi => ?_, fun i j hij hj x hx hy => ?_⟩
  · rw [flatF_succ, flatF_set _ _ _ _ _ (Nat.le_refl _), plSet_at]
    exact hrow
  · by_cases e : i = k
    · subst e
      rw [plSet_at]
      have q := hp.below h3
      exact ⟨q.turned ht' fun x hx => nv x (.inl hx), (hps.below hp h3).turnedP q ht' fun x hx => nv x (.inl hx)⟩
    · rw [plSet_lt (by omega)]
      obtain ⟨q1, q2⟩ := hB.pts i (by omega)
      have n : ∀ x, blk (ad i).1.1 = some x → ¬ v.ownBlock = some x := fun x hx e => (h.rng i (by omega) x (.inl hx)).2.2 e
      exact ⟨q1.turned ht' n, q2.turnedP q1 ht' n⟩
  · by_cases e : i = k
    · subst e
      rw [plSet_at]
      have q := ht.below h3
      exact ⟨q.turned ht' fun x hx => nv x (.inr hx), (hts.belowT ht h3).turnedT q ht' fun x hx => nv x (.inr hx)⟩
    · rw [plSet_lt (by omega)]
      obtain ⟨q1, q2⟩ := hB.tags i (by omega)
      have n : ∀ x, blk (ad i).2.1 = some x → ¬ v.ownBlock = some x := fun x hx e => (h.rng i (by omega) x (.inr hx)).2.2 e
      exact ⟨q1.turned ht' n, q2.turnedT q1 ht' n⟩
  · by_cases e : i = k
    · subst e
      rw [plSet_at] at hx
      obtain ⟨q1, q2⟩ := hfr x hx
      exact ⟨by omega, by omega, fun e => gne x q2 (nv x hx) (own' x e)⟩
    · rw [plSet_lt (by omega)] at hx
      obtain ⟨q1, q2, q3⟩ := h.rng i (by omega) x hx
      exact ⟨q1, by omega, fun e => gne x (by omega) q3 (own' x e)⟩
  · by_cases e : i = k
    · subst e
      rw [plSet_at]
      exact hap
    · rw [plSet_lt (by omega)]
      exact h.two i (by omega)
  · rw [plSet_lt (by omega)] at hx
    by_cases e : j = k
    · subst e
      rw [plSet_at] at hy
      have h1 := (hfr x hy).1
      have h2 := (h.rng i (by omega) x hx).2.1
      omega
    · rw [plSet_lt (by omega)] at hy
      exact h.far i j hij (by omega) x hx hy

/-- a built list lies in memory of its own -/
theorem Built.lies {w : World} {lo b cap : Nat} {fs : List Ft} {ad : Nat → Pl} (h : Built w lo (.slice (some ⟨b, 0, none⟩) fs.length cap) fs.length fs ad) : Lies w b 0 fs ad ∧ Sep b fs.length ad ∧ (∀ x, blocksOf b fs.length ad x → lo ≤ x ∧ x < w.heap.size) := by
  obtain ⟨h1, ⟨h2, _⟩ | ⟨g, cap2, cur, e, hb, hg, hc, hm, hs, hx⟩⟩ := h.row
  · simp at h2
  · obtain ⟨rfl, rfl⟩ : b = g ∧ cap = cap2 := by simpa using e
    have hlt : b < w.heap.size := (Array.getElem?_eq_some_iff.1 hg).1
    have cell : ∀ j v, j < fs.length * 4 → (flatF fs ad fs.length)[j]? = some v → w.cell? ⟨b, 0 + j, none⟩ = some v := by
      intro j v hj hv
      rw [← hx, List.getElem?_take, if_pos hj] at hv
      simp only [World.cell?, hg, Option.isSome_none, Bool.false_eq_true, if_false, Nat.zero_add]
      simpa using hv
    refine ⟨⟨fun i hi => ?_, fun i hi => ?_, h.pts, h.tags, hlt⟩, ⟨fun i hi => ?_, h.two, fun i j hi hj hne => ?_⟩, ?_⟩
    · have f := fun o ho => flatF_at fs ad fs.length i o hi ho
      exact ⟨cell _ _ (by omega) (f 0 (by omega)), cell _ _ (by omega) (f 1 (by omega)), cell _ _ (by omega) (f 2 (by omega)), cell _ _ (by omega) (f 3 (by omega))⟩
    · constructor <;> simp [World.frozen?, hg]
    · exact ⟨fun e => (h.rng i hi b (.inl e)).2.2 rfl, fun e => (h.rng i hi b (.inr e)).2.2 rfl⟩
    · have key : ∀ x, inPart (ad i) x → ¬ inPart (ad j) x := by
        rcases Nat.lt_or_gt_of_ne hne with q | q
        · exact h.far i j q hj
        · exact fun x hx hy => h.far j i q hi x hy hx
      exact ⟨fun x hx hy => key x (.inl hx) (.inl hy), fun x hx hy => key x (.inl hx) (.inr hy), fun x hx hy => key x (.inr hx) (.inl hy), fun x hx hy => key x (.inr hx) (.inr hy)⟩
    · rintro x (rfl | ⟨i, hi, e⟩)
      · exact ⟨hb, hlt⟩
      · exact ⟨(h.rng i hi x e).1, (h.rng i hi x e).2.1⟩

end Go.Proofs.YtjphlpjippojiaaGreat
