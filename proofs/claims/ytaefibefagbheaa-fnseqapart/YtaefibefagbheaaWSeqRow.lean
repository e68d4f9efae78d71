/- Proved here: how a row of two numbers a place is laid by appends, and what is answered; no condition. -/
import Derived.Test.YtaefibefagbheaaWBack
import Derived.Test.YtaefibefagbheaaWSeqLong
import Derived.Deep.AppendLies
import Derived.Laws.OwnMore
import Derived.Deep.Onto
namespace Go.Proofs.Ytaefibefagbheaa
set_option linter.unusedVariables false
open Go.ChangeShapes Go.WideShapes Go.ChangeAt Go.RowKit

/-- a row of its own that is laid by appends, all old memory kept -/
structure Grow (w0 : World) (e : TypeId) (qs : List (Int × Int)) (wr : World) (v : Value) : Prop where
  own : wr.ownsRow w0.heap.size e 2 v qs.length (flat qs)
  bel : Below w0.heap.size w0 wr

theorem Grow.nil (w : World) (e : TypeId) : Grow w e [] w (.slice none 0 0) := ⟨World.ownsRow_nil _ _ _ _, Below.refl _ _⟩

theorem Grow.lit (w : World) (e : TypeId) : Grow w e [] (w.alloc (.cells #[] e)) (.slice (some ⟨w.heap.size, 0, none⟩) 0 0) :=
  ⟨World.ownsRow_lit w #[] 0 (Nat.le_refl _) (Nat.zero_le _) (by simp), (Below.refl _ _).alloc (Nat.le_refl _) _⟩

theorem Grow.below {w0 : World} {e : TypeId} {qs : List (Int × Int)} {wr w' : World} {v : Value} (h : Grow w0 e qs wr v) (hb : Below wr.heap.size wr w') : Grow w0 e qs w' v :=
  ⟨h.own.kept (row := none) ⟨hb.os, hb.tape, hb.output, hb.size, fun k hk _ => hb.block k hk⟩ (by cases hv : v.ownBlock <;> simp), h.bel.trans (hb.mono h.bel.size)⟩

theorem Grow.alloc {w0 : World} {e : TypeId} {qs : List (Int × Int)} {wr : World} {v : Value} (h : Grow w0 e qs wr v) (o : Obj) : Grow w0 e qs (wr.alloc o) v := h.below ((Below.refl _ _).alloc (Nat.le_refl _) _)

theorem Grow.drewN {w0 : World} {e : TypeId} {qs : List (Int × Int)} {wr : World} {v : Value} (h : Grow w0 e qs wr v) (n : Nat) : Grow w0 e qs (wr.drewN n) v := ⟨h.own, below_drewN h.bel n⟩

theorem Grow.more {w0 : World} {e : TypeId} {qs ps : List (Int × Int)} {wr wb wa : World} {v v' : Value} {n : Nat} (h : Grow w0 e qs wr v) (hb : Below wr.heap.size wr wb) (hn : n = qs.length + ps.length)
    (hown : wa.ownsRow w0.heap.size e 2 v' n (flat qs ++ flat ps)) (hg : wb.grownBy wa v.ownBlock) : Grow w0 e (qs ++ ps) wa v' := by
  subst hn
  refine ⟨?_, (h.bel.trans (hb.mono h.bel.size)).grown hg (Nat.le_trans h.bel.size hb.size) fun k hk => (h.own.lt k hk).1⟩
  have e1 : flat (qs ++ ps) = flat qs ++ flat ps := by simp [flat]
  rw [e1, List.length_append]
  exact hown

theorem Grow.len {w0 : World} {e : TypeId} {qs : List (Int × Int)} {wr : World} {v : Value} (h : Grow w0 e qs wr v) : ∃ a cap, v = .slice a qs.length cap := by
  obtain ⟨a, cap, hv, _⟩ := owned_pts h.own rfl
  exact ⟨a, cap, hv⟩

/-- a row that is answered: it reads so, may be written, and lies in memory of its own -/
structure RowIs (w : World) (a : Option Addr) (ps : List (Int × Int)) (w' : World) : Prop where
  pts : PtsAt w' a ps
  soft : Soft w' a ps.length
  fresh : Fresh w w' a
  bel : Below w.heap.size w w'

theorem Grow.row {w w0 : World} {e : TypeId} {qs : List (Int × Int)} {wr : World} {v : Value} (h : Grow w0 e qs wr v) (hw : Below w.heap.size w w0) : ∃ a cap, v = .slice a qs.length cap ∧ RowIs w a qs wr := by
  obtain ⟨a, cap, hv, hp, hs, hx⟩ := owned_pts h.own rfl
  exact ⟨a, cap, hv, hp, hs, fun x e => ⟨Nat.le_trans hw.size (hx x e).1, (hx x e).2⟩, hw.trans (h.bel.mono hw.size)⟩

theorem RowIs.none {w w' : World} (hb : Below w.heap.size w w') : RowIs w none [] w' :=
  ⟨PtsAt.nil _ _, fun i hi => absurd hi (Nat.not_lt_zero _), fun x h => by simp [blk] at h, hb⟩

/-- what a function that makes a row answers -/
def RowAns (w : World) (ps : List (Int × Int)) (e : Ending) (w' : World) : Prop :=
  ∃ a cap, e = .returned (.slice a ps.length cap) ∧ RowIs w a ps w'

/-- the same, with the row's own type -/
def OwnAns (w : World) (t : TypeId) (ps : List (Int × Int)) (e : Ending) (w' : World) : Prop :=
  ∃ a cap, e = .returned (.slice a ps.length cap) ∧ w'.ownsRow w.heap.size t 2 (.slice a ps.length cap) ps.length (flat ps) ∧ Below w.heap.size w w'

theorem OwnAns.row {w : World} {t : TypeId} {ps : List (Int × Int)} {e : Ending} {w' : World} (h : OwnAns w t ps e w') : RowAns w ps e w' := by
  obtain ⟨a, cap, rfl, ho, hb⟩ := h
  obtain ⟨a', cap', hv, hp, hs, hx⟩ := owned_pts ho rfl
  cases hv
  exact ⟨a, cap, rfl, hp, hs, hx, hb⟩

theorem Grow.ans {w w0 : World} {t : TypeId} {qs : List (Int × Int)} {wr : World} {v : Value} (h : Grow w0 t qs wr v) (hw : Below w.heap.size w w0) : OwnAns w t qs (.returned v) wr := by
  obtain ⟨a, cap, rfl⟩ := h.len
  exact ⟨a, cap, rfl, World.ownsRow.mono h.own hw.size, hw.trans (h.bel.mono hw.size)⟩

/-- places as numbers -/
def zp (l : List (Nat × Nat)) : List (Int × Int) := l.map fun p => ((p.1 : Int), (p.2 : Int))

theorem zp_len (l : List (Nat × Nat)) : (zp l).length = l.length := by simp [zp]

/-- the pairs, or none of rows that are too long -/
def pairsOf (a b : List (Int × Int)) : List (Nat × Nat) := if fewB [a.length, b.length] = true then prs 0 0 a b else []

theorem pairsOf_few {a b : List (Int × Int)} (h : fewB [a.length, b.length] = true) : pairsOf a b = prs 0 0 a b := if_pos h
theorem pairsOf_many {a b : List (Int × Int)} (h : fewB [a.length, b.length] = false) : pairsOf a b = [] := by unfold pairsOf; rw [h]; rfl

theorem prs_at (a b : List (Int × Int)) (i k : Nat) (hi : i < a.length) (hk : k < b.length) :
    prs i k (a.drop i) (b.drop k) = if ptEq (px a i, py a i) (px b k, py b k) = true then (i, k) :: prs (i + 1) (k + 1) (a.drop (i + 1)) (b.drop (k + 1)) else if lcs (a.drop i) (b.drop (k + 1)) ≤ lcs (a.drop (i + 1)) (b.drop k) then prs (i + 1) k (a.drop (i + 1)) (b.drop k) else prs i (k + 1) (a.drop i) (b.drop (k + 1)) := by
  conv => lhs; rw [drop_pt a i hi, drop_pt b k hk, prs_cons]
  rw [← drop_pt a i hi, ← drop_pt b k hk]
  unfold ptEq
  simp only [decide_eq_true_eq]

/-- how far the pairs are: those that were, and those that come -/
def Sofar (a b : List (Int × Int)) (i k : Nat) (done : List (Nat × Nat)) : Prop := done ++ prs i k (a.drop i) (b.drop k) = prs 0 0 a b ∧ done.length ≤ i

theorem Sofar.start (a b : List (Int × Int)) : Sofar a b 0 0 [] := by simp [Sofar]
theorem Sofar.pair {a b : List (Int × Int)} {i k : Nat} {done : List (Nat × Nat)} (h : Sofar a b i k done) (hi : i < a.length) (hk : k < b.length) (hs : ptEq (px a i, py a i) (px b k, py b k) = true) : Sofar a b (i + 1) (k + 1) (done ++ [(i, k)]) := by
  obtain ⟨h1, h2⟩ := h
  rw [prs_at a b i k hi hk, if_pos hs] at h1
  exact ⟨by simpa using h1, by simp; omega⟩
theorem Sofar.left {a b : List (Int × Int)} {i k : Nat} {done : List (Nat × Nat)} (h : Sofar a b i k done) (hi : i < a.length) (hk : k < b.length) (hs : ptEq (px a i, py a i) (px b k, py b k) = false) (hc : lcs (a.drop i) (b.drop (k + 1)) ≤ lcs (a.drop (i + 1)) (b.drop k)) : Sofar a b (i + 1) k done := by
  obtain ⟨h1, h2⟩ := h
  rw [prs_at a b i k hi hk, hs, if_neg (by simp), if_pos hc] at h1
  exact ⟨h1, by omega⟩
theorem Sofar.right {a b : List (Int × Int)} {i k : Nat} {done : List (Nat × Nat)} (h : Sofar a b i k done) (hi : i < a.length) (hk : k < b.length) (hs : ptEq (px a i, py a i) (px b k, py b k) = false) (hc : ¬ lcs (a.drop i) (b.drop (k + 1)) ≤ lcs (a.drop (i + 1)) (b.drop k)) : Sofar a b i (k + 1) done := by
  obtain ⟨h1, h2⟩ := h
  rw [prs_at a b i k hi hk, hs, if_neg (by simp), if_neg hc] at h1
  exact ⟨h1, by omega⟩
theorem Sofar.stop {a b : List (Int × Int)} {i k : Nat} {done : List (Nat × Nat)} (h : Sofar a b i k done) (hs : a.length ≤ i ∨ b.length ≤ k) : done = prs 0 0 a b := by
  obtain ⟨h1, _⟩ := h
  rcases hs with hs | hs
  · rw [List.drop_eq_nil_of_le hs, prs_nil, List.append_nil] at h1; exact h1
  · rw [List.drop_eq_nil_of_le hs, prs_nil', List.append_nil] at h1; exact h1

theorem infoPair : (Try.prog.info? 30).map (fun i => (i.zero, i.size, i.bytes)) = some (some (.agg #[.int .i64 0, .int .i64 0]), 2, 16) := by kernel_rfl
end Go.Proofs.Ytaefibefagbheaa
