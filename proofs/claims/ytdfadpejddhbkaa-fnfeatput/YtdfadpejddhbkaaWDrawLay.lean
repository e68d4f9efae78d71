/- Proved here: how a row is laid by appends while a reader goes on beside it: what is kept. No condition. -/
import Derived.Test.YtdfadpejddhbkaaWDrawPt
import Derived.Test.YtdfadpejddhbkaaWCopyF
import Derived.Deep.RegionLaw
import Derived.Deep.AppendLies
import Derived.Deep.QuietTactic
import Derived.Deep.RegionHeld3
import Derived.Deep.DeepCutAuto
import Derived.BigQuiet
namespace Go.Proofs.Ytdfadpejddhbkaa
set_option linter.unusedVariables false
open Go.ChangeShapes Go.WideShapes Go.ChangeAt Go.RowKit

theorem cell_two (w : World) (x y : Value) (t : TypeId) : (w.alloc (.cells #[x, y] t)).cell? ⟨w.heap.size, 0, none⟩ = some x ∧ (w.alloc (.cells #[x, y] t)).cell? ⟨w.heap.size, 1, none⟩ = some y ∧ (w.alloc (.cells #[x, y] t)).frozen? ⟨w.heap.size, 0, none⟩ = false ∧ (w.alloc (.cells #[x, y] t)).frozen? ⟨w.heap.size, 1, none⟩ = false := by
  refine ⟨?_, ?_, ?_, ?_⟩ <;> simp [go_sem]

theorem below_grown {a b : World} {r : Option Nat} (h : Below a.heap.size a b) : a.grownBy b r := ⟨h.os, h.tape, h.output, h.size, fun k hk _ => h.block k hk⟩

/-- of old memory but two blocks have turned -/
structure Kept2 (c d : Nat) (w w' : World) : Prop where
  os : w'.os = w.os
  tape : w'.tape = w.tape
  output : w'.output = w.output
  size : w.heap.size ≤ w'.heap.size
  block : ∀ k, k < w.heap.size → k ≠ c → k ≠ d → w'.heap[k]? = w.heap[k]?

theorem Kept2.refl (c d : Nat) (w : World) : Kept2 c d w w := ⟨rfl, rfl, rfl, Nat.le_refl _, fun _ _ _ _ => rfl⟩

theorem Kept2.then {c d : Nat} {a b e : World} {r : Option Nat} (h : Kept2 c d a b) (k : b.grownBy e r) (hr : ∀ j, r = some j → a.heap.size ≤ j ∨ j = c ∨ j = d) : Kept2 c d a e :=
  ⟨k.os.trans h.os, k.tape.trans h.tape, k.output.trans h.output, Nat.le_trans h.size k.size, fun i hi h1 h2 =>
    (k.block i (Nat.lt_of_lt_of_le hi h.size) (fun e => by rcases hr i e.symm with h' | h' | h'; (omega); (exact h1 h'); (exact h2 h'))).trans (h.block i hi h1 h2)⟩

theorem Kept2.cell {c d : Nat} {w w' : World} (h : Kept2 c d w w') {b o : Nat} {v : Value} (hv : w.cell? ⟨b, o, none⟩ = some v) (h1 : b ≠ c) (h2 : b ≠ d) : w'.cell? ⟨b, o, none⟩ = some v :=
  (World.cell?_of_block (w := w) (h.block b (World.block_lt_of_cell? _ _ hv) h1 h2)).trans hv

theorem Kept2.frozen {c d : Nat} {w w' : World} (h : Kept2 c d w w') {b o : Nat} (hb : b < w.heap.size) (h1 : b ≠ c) (h2 : b ≠ d) : w'.frozen? ⟨b, o, none⟩ = w.frozen? ⟨b, o, none⟩ :=
  World.frozen?_of_block (w := w) (h.block b hb h1 h2)

/-- a shape's box whose points are laid by appends, beside a reader -/
structure Lay2 (W : World) (c R : Nat) (k : Int) (qs : List (Int × Int)) (wr : World) (v : Value) : Prop where
  own : wr.ownsRow W.heap.size 32 2 v qs.length (flat qs)
  kept : Kept2 c R W wr
  kind : wr.cell? ⟨c, 0, none⟩ = some (.int .i64 k)
  pts : wr.cell? ⟨c, 1, none⟩ = some v
  soft : wr.frozen? ⟨c, 1, none⟩ = false
  soft0 : wr.frozen? ⟨c, 0, none⟩ = false

/-- the reader goes on, or memory is made -/
theorem Lay2.read {W wr w1 : World} {c R : Nat} {k : Int} {qs : List (Int × Int)} {v : Value} (h : Lay2 W c R k qs wr v) (hg : wr.grownBy w1 (some R)) (hR : R < W.heap.size) (hne : c ≠ R) : Lay2 W c R k qs w1 v := by
  have hlt : c < wr.heap.size := World.block_lt_of_cell? _ _ h.kind
  have hne' : some c ≠ some R := by simpa using hne
  refine ⟨World.ownsRow.kept h.own hg ?_, h.kept.then hg (fun j e => .inr (.inr (by simpa using e.symm))), (hg.cell_far _ hlt hne').trans h.kind, (hg.cell_far _ hlt hne').trans h.pts, (hg.frozen_far _ hlt hne').trans h.soft, (hg.frozen_far _ hlt hne').trans h.soft0⟩
  right
  intro e
  have := (h.own.lt R e).1
  omega

theorem Lay2.alloc {W wr : World} {c R : Nat} {k : Int} {qs : List (Int × Int)} {v : Value} (h : Lay2 W c R k qs wr v) (O : Obj) (hR : R < W.heap.size) (hne : c ≠ R) : Lay2 W c R k qs (wr.alloc O) v :=
  h.read (World.grownBy_alloc wr O (some R)) hR hne

theorem Lay2.drewN {W wr : World} {c R : Nat} {k : Int} {qs : List (Int × Int)} {v : Value} (h : Lay2 W c R k qs wr v) (n : Nat) : Lay2 W c R k qs (wr.drewN n) v :=
  ⟨h.own, ⟨h.kept.os, h.kept.tape, h.kept.output, h.kept.size, h.kept.block⟩, h.kind, h.pts, h.soft, h.soft0⟩

/-- what an append leaves of the box -/
theorem Lay2.after {W wr wb wa : World} {c R : Nat} {k : Int} {qs : List (Int × Int)} {v : Value} (h : Lay2 W c R k qs wr v) (hc : c < W.heap.size) (hwb : Below wr.heap.size wr wb) (hg : wb.grownBy wa v.ownBlock) :
    wa.cell? ⟨c, 0, none⟩ = some (.int .i64 k) ∧ wa.cell? ⟨c, 1, none⟩ = some v ∧ wa.frozen? ⟨c, 1, none⟩ = false ∧ wa.frozen? ⟨c, 0, none⟩ = false := by
  have hlt : c < wr.heap.size := Nat.lt_of_lt_of_le hc h.kept.size
  have hb : ∀ j, v.ownBlock = some j → W.heap.size ≤ j := fun j hj => (h.own.lt j hj).1
  have hne : some c ≠ v.ownBlock := fun e => by have := hb c e.symm; omega
  have hca : c < wb.heap.size := Nat.lt_of_lt_of_le hlt hwb.size
  refine ⟨?_, ?_, ?_, ?_⟩
  · rw [hg.cell_far _ hca hne, hwb.cell (p := ⟨c, _, none⟩) hlt]
    exact h.kind
  · rw [hg.cell_far _ hca hne, hwb.cell (p := ⟨c, _, none⟩) hlt]
    exact h.pts
  · rw [hg.frozen_far _ hca hne, hwb.frozen (p := ⟨c, _, none⟩) hlt]
    exact h.soft
  · rw [hg.frozen_far _ hca hne, hwb.frozen (p := ⟨c, _, none⟩) hlt]
    exact h.soft0

theorem Lay2.step {W wr wb wa : World} {c R : Nat} {k : Int} {qs : List (Int × Int)} {v v' : Value} {p : Int × Int} (h : Lay2 W c R k qs wr v) (hc : c < W.heap.size)
    (hown : wa.ownsRow W.heap.size 32 2 v' (qs.length + 1) (flat qs ++ [.int .i64 p.1, .int .i64 p.2])) (hwb : Below wr.heap.size wr wb) (hg : wb.grownBy wa v.ownBlock) :
    Lay2 W c R k (qs ++ [p]) (wa.setCell ⟨c, 1, none⟩ v') v' := by
  obtain ⟨k1, k2, k3, k4⟩ := h.after hc hwb hg
  have hb : ∀ j, v.ownBlock = some j → W.heap.size ≤ j := fun j hj => (h.own.lt j hj).1
  have g1 : Kept2 c R W wa := (h.kept.then (below_grown hwb) (r := none) (fun j e => by simp at e)).then hg (fun j e => .inl (hb j e))
  have g2 : wa.grownBy (wa.setCell ⟨c, 1, none⟩ v') (some c) := grown_set (World.grownBy.refl _ _) _ _
  refine ⟨?_, g1.then g2 (fun j e => .inr (.inl (by simpa using e.symm))), ?_, ?_, ?_, ?_⟩
  · rw [flat_snoc, List.length_append]
    exact World.ownsRow.kept hown g2 (by
      right
      intro e
      have := (hown.lt c e).1
      omega)
  · rw [World.cell?_setCell_other _ _ _ _ (by simp)]
    exact k1
  · exact World.cell?_setCell_same _ _ _ k2
  · rw [World.frozen?_setCell]
    exact k3
  · rw [World.frozen?_setCell]
    exact k4

/-- a reader beside an append -/
theorem Rd.appended {W wr wb wa : World} {c R : Nat} {k : Int} {qs : List (Int × Int)} {v v' : Value} {a : Option Addr} {len cap : Nat} {p : Int} (hL : Lay2 W c R k qs wr v) (h : Rd wr R a len cap p) (hR : R < W.heap.size) (hcR : c ≠ R) (hcode : ∀ i, i < len → ∀ x, blk a = some x → x < W.heap.size ∧ x ≠ c)
    (hwb : Below wr.heap.size wr wb) (hg : wb.grownBy wa v.ownBlock) : Rd (wa.setCell ⟨c, 1, none⟩ v') R a len cap p := by
  have hb : ∀ j, v.ownBlock = some j → W.heap.size ≤ j := fun j hj => (hL.own.lt j hj).1
  have r1 : Rd wb R a len cap p := h.kept (r := none) (below_grown hwb) (by simp) (fun i hi => by obtain ⟨b, off, c, e, _⟩ := h.bytes i hi; rw [e]; simp [blk])
  have r2 : Rd wa R a len cap p := r1.kept hg (fun e => by have := hb R e; omega) (fun i hi e => by
    obtain ⟨b, off, c, e', _⟩ := h.bytes i hi
    have hx : blk a = some b := by rw [e']; rfl
    have := hb b (by rw [← e, hx])
    have := (hcode i hi b hx).1
    omega)
  exact r2.kept (grown_set (World.grownBy.refl wa (some c)) _ _) (by simpa using hcR) (fun i hi e => by
    obtain ⟨b, off, x, e', _⟩ := h.bytes i hi
    have hx : blk a = some b := by rw [e']; rfl
    have := (hcode i hi b hx).2
    rw [hx] at e
    simp at e
    exact this e)
end Go.Proofs.Ytdfadpejddhbkaa
