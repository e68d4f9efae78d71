/- Proved here: the model's ShapeBack and the program's both answer the points the last first, in memory of their own; rows of at most 1,048,576 points. -/
import Derived.Test.YtdfadpejddhbkaaWOk
import Derived.Test.YtdfadpejddhbkaaWMark
import Derived.Deep.RegionLaw
import Derived.Maps.Range
namespace Go.Proofs.Ytdfadpejddhbkaa
set_option linter.unusedVariables false
open Go.ChangeShapes Go.WideShapes Go.ChangeAt Go.RowKit

/-- points as cells -/
def flat (ps : List (Int × Int)) : List Value := ps.flatMap fun p => [.int .i64 p.1, .int .i64 p.2]

theorem flat_len : ∀ ps : List (Int × Int), (flat ps).length = ps.length * 2
  | [] => rfl
  | p :: r => by
    have := flat_len r
    simp only [flat, List.flatMap_cons, List.length_append, List.length_cons, List.length_nil] at *
    omega

theorem flat_at : ∀ (ps : List (Int × Int)) (i : Nat), i < ps.length → (flat ps)[i * 2]? = some (.int .i64 (px ps i)) ∧ (flat ps)[i * 2 + 1]? = some (.int .i64 (py ps i))
  | [], i, h => absurd h (Nat.not_lt_zero _)
  | p :: r, 0, _ => by simp [flat, px, py]
  | p :: r, i + 1, h => by
    have ih := flat_at r i (by simpa using h)
    have e : flat (p :: r) = [.int .i64 p.1, .int .i64 p.2] ++ flat r := by simp [flat]
    rw [e, show (i + 1) * 2 = 2 + i * 2 by omega, show 2 + i * 2 + 1 = 2 + (i * 2 + 1) by omega]
    simp only [List.getElem?_append_right (show [Value.int .i64 p.1, .int .i64 p.2].length ≤ 2 + i * 2 by simp), List.getElem?_append_right (show [Value.int .i64 p.1, .int .i64 p.2].length ≤ 2 + (i * 2 + 1) by simp)]
    simp only [List.length_cons, List.length_nil, Nat.zero_add, Nat.add_sub_cancel_left, Nat.reduceAdd]
    simpa [px, py] using ih

theorem flat_snoc (ps : List (Int × Int)) (p : Int × Int) : flat (ps ++ [p]) = flat ps ++ [.int .i64 p.1, .int .i64 p.2] := by simp [flat]

/-- a slice that leads to a block made since -/
def Fresh (w w' : World) (a : Option Addr) : Prop := ∀ x, blk a = some x → w.heap.size ≤ x ∧ x < w'.heap.size

/-- what a function that makes a shape answers -/
def ShapeAns (w : World) (k : Int) (ps : List (Int × Int)) (e : Ending) (w' : World) : Prop :=
  ∃ a cap, e = .returned (.agg #[.int .i64 k, .slice a ps.length cap]) ∧ PtsAt w' a ps ∧ Soft w' a ps.length ∧ Fresh w w' a ∧ Below w.heap.size w w'

/-- an owned row reads as its points -/
theorem owned_pts {w : World} {base : Nat} {e : TypeId} {v : Value} {n : Nat} {ps : List (Int × Int)} (h : w.ownsRow base e 2 v n (flat ps)) (hn : n = ps.length) :
    ∃ a cap, v = .slice a ps.length cap ∧ PtsAt w a ps ∧ Soft w a ps.length ∧ ∀ x, blk a = some x → base ≤ x ∧ x < w.heap.size := by
  subst hn
  obtain ⟨h1, ⟨rfl, h2⟩ | ⟨g, cap, cur, rfl, hb, hg, hc, hm, hs, hx⟩⟩ := h
  · have : ps.length = 0 := by omega
    refine ⟨none, 0, by rw [this], fun i hi => by omega, fun i hi => by omega, fun x h => by simp [blk] at h⟩
  · refine ⟨some ⟨g, 0, none⟩, cap, rfl, ?_, ?_, fun x h => by obtain rfl : g = x := (by simpa [blk] using h); exact ⟨hb, (Array.getElem?_eq_some_iff.1 hg).1⟩⟩
    · have cell : ∀ j v, j < ps.length * 2 → (flat ps)[j]? = some v → w.cell? ⟨g, 0 + j, none⟩ = some v := by
        intro j v hj hv
        rw [← hx, List.getElem?_take, if_pos hj] at hv
        simp only [World.cell?, hg, Option.isSome_none, Bool.false_eq_true, if_false, Nat.zero_add]
        simpa using hv
      intro i hi
      obtain ⟨e1, e2⟩ := flat_at ps i hi
      exact ⟨g, 0, rfl, (Array.getElem?_eq_some_iff.1 hg).1, cell _ _ (by omega) e1, cell _ _ (by omega) e2⟩
    · intro i hi b off e
      obtain ⟨rfl, rfl⟩ : g = b ∧ 0 = off := by simpa using e
      simp [World.frozen?, hg]

/-- an owned row in a grown world: only a block of the call's own boxes has turned besides -/
structure Laying (w1 : World) (c : Nat) (k : Int) (ps : List (Int × Int)) (wr : World) (v : Value) : Prop where
  own : wr.ownsRow w1.heap.size 32 2 v ps.length (flat ps)
  grown : w1.grownBy wr (some c)
  kind : wr.cell? ⟨c, 0, none⟩ = some (.int .i64 k)
  pts : wr.cell? ⟨c, 1, none⟩ = some v
  soft : wr.frozen? ⟨c, 1, none⟩ = false

theorem Laying.after {w1 wr wa : World} {c : Nat} {k : Int} {ps : List (Int × Int)} {v : Value} {B : Obj} (h : Laying w1 c k ps wr v) (hc : c < w1.heap.size) (hg0 : ((wr.alloc B).drew).grownBy wa v.ownBlock) :
    wa.cell? ⟨c, 0, none⟩ = some (.int .i64 k) ∧ wa.cell? ⟨c, 1, none⟩ = some v ∧ wa.frozen? ⟨c, 1, none⟩ = false := by
  have hg : (wr.alloc B).grownBy wa v.ownBlock := ⟨hg0.os, hg0.tape, hg0.output, hg0.size, hg0.block⟩
  have hlt : c < wr.heap.size := Nat.lt_of_lt_of_le hc h.grown.size
  have hb : ∀ j, v.ownBlock = some j → w1.heap.size ≤ j := fun j hj => (h.own.lt j hj).1
  have hne : some c ≠ v.ownBlock := fun e => by have := hb c e.symm; omega
  have hca : c < (wr.alloc B).heap.size := by simp; omega
  refine ⟨?_, ?_, ?_⟩
  · rw [hg.cell_far _ hca hne, World.cell?_of_block (w := wr) (Below.heap_alloc _ _ _ hlt)]
    exact h.kind
  · rw [hg.cell_far _ hca hne, World.cell?_of_block (w := wr) (Below.heap_alloc _ _ _ hlt)]
    exact h.pts
  · rw [hg.frozen_far _ hca hne, World.frozen?_of_block (w := wr) (Below.heap_alloc _ _ _ hlt)]
    exact h.soft

theorem Laying.step {w1 wr wa : World} {c : Nat} {k : Int} {ps : List (Int × Int)} {v v' : Value} {p : Int × Int} {B : Obj} (h : Laying w1 c k ps wr v) (hc : c < w1.heap.size)
    (hown : wa.ownsRow w1.heap.size 32 2 v' (ps.length + 1) (flat ps ++ [.int .i64 p.1, .int .i64 p.2])) (hg0 : ((wr.alloc B).drew).grownBy wa v.ownBlock) :
    Laying w1 c k (ps ++ [p]) (wa.setCell ⟨c, 1, none⟩ v') v' := by
  obtain ⟨k1, k2, k3⟩ := h.after hc hg0
  have hg : (wr.alloc B).grownBy wa v.ownBlock := ⟨hg0.os, hg0.tape, hg0.output, hg0.size, hg0.block⟩
  have hb : ∀ j, v.ownBlock = some j → w1.heap.size ≤ j := fun j hj => (h.own.lt j hj).1
  have g1 : w1.grownBy wa (some c) := (h.grown.trans (World.grownBy_alloc wr B (some c))).andThen hg fun j hj => .inl (hb j hj)
  refine ⟨?_, grown_set g1 _ _, ?_, ?_, ?_⟩
  · rw [flat_snoc, List.length_append]
    exact World.ownsRow.kept hown ⟨rfl, rfl, rfl, by simp [World.setCell], fun k _ hne => Below.heap_setCell _ _ _ _ (fun e => hne (by rw [e]))⟩ (row := some c) (by
      right
      intro e
      have := (hown.lt c e).1
      omega)
  · rw [World.cell?_setCell_other _ _ _ _ (by simp)]
    exact k1
  · exact World.cell?_setCell_same _ _ _ k2
  · rw [World.frozen?_setCell]
    exact k3

theorem Laying.far {w1 wr : World} {c : Nat} {k : Int} {ps : List (Int × Int)} {v : Value} (h : Laying w1 c k ps wr v) {b o : Nat} {x : Value} (hb : w1.cell? ⟨b, o, none⟩ = some x) (hne : b ≠ c) : wr.cell? ⟨b, o, none⟩ = some x := by
  rw [h.grown.cell_far _ (World.block_lt_of_cell? _ _ hb) (by simpa using hne)]
  exact hb

theorem Laying.drew {w1 wr : World} {c : Nat} {k : Int} {ps : List (Int × Int)} {v : Value} (h : Laying w1 c k ps wr v) : Laying w1 c k ps wr.drew v :=
  ⟨h.own, ⟨h.grown.os, h.grown.tape, h.grown.output, h.grown.size, h.grown.block⟩, h.kind, h.pts, h.soft⟩

/-- the first so many, the last first -/
def backTo (ps : List (Int × Int)) (j : Nat) : List (Int × Int) := ps.reverse.take j

theorem backTo_step {ps : List (Int × Int)} {j : Nat} (h : j < ps.length) : backTo ps (j + 1) = backTo ps j ++ [(px ps (ps.length - 1 - j), py ps (ps.length - 1 - j))] := by
  unfold backTo
  rw [List.take_succ_eq_append_getElem (by simpa using h)]
  congr 2
  rw [List.getElem_reverse]
  simp [px, py, show ps.length - 1 - j < ps.length by omega]

theorem backTo_len {ps : List (Int × Int)} {j : Nat} (h : j ≤ ps.length) : (backTo ps j).length = j := by
  unfold backTo
  simp
  omega

theorem Soft.set {w : World} {a : Option Addr} {n : Nat} (h : Soft w a n) (x : Addr) (v : Value) : Soft (w.setCell x v) a n := by
  intro i hi b off e
  rw [World.frozen?_setCell, World.frozen?_setCell]
  exact h i hi b off e

theorem PtsAt.set {w : World} {a : Option Addr} {ps : List (Int × Int)} (h : PtsAt w a ps) {c o : Nat} {v : Value} (hne : blk a ≠ some c) : PtsAt (w.setCell ⟨c, o, none⟩ v) a ps :=
  h.grown (r := some c) (grown_set (World.grownBy.refl _ _) _ _) (.inr hne)

/-- the answer, behind the stores into the result's box -/
theorem Laying.answer {w w1 wr : World} {c r : Nat} {k : Int} {ps : List (Int × Int)} {a : Option Addr} {cap : Nat} {x0 x1 : Value} (hw : Below w.heap.size w w1) (hg : w1.grownBy wr (some c)) (hc : w.heap.size ≤ c) (hr : w.heap.size ≤ r) (hr1 : r < w1.heap.size)
    (hp : PtsAt wr a ps) (hs : Soft wr a ps.length) (hn : ∀ x, blk a = some x → w1.heap.size ≤ x ∧ x < wr.heap.size) :
    ShapeAns w k ps (.returned (.agg #[.int .i64 k, .slice a ps.length cap])) ((wr.setCell ⟨r, 0, none⟩ x0).setCell ⟨r, 1, none⟩ x1) := by
  have hne : blk a ≠ some r := fun e => by have := (hn r e).1; omega
  refine ⟨a, cap, rfl, (hp.set hne).set hne, (hs.set _ _).set _ _, fun x e => ⟨by have := (hn x e).1; have := hw.size; omega, by have := (hn x e).2; simpa [World.setCell] using this⟩, ?_⟩
  exact ((hw.grown hg hw.size (fun j e => by simp at e; omega)).setCell hr _).setCell hr _
end Go.Proofs.Ytdfadpejddhbkaa
