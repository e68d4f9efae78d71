/- Proved here: an argument that is a list of clashes reads as such a list; no condition. -/
import Derived.Test.YtccgbengfmlgbaaWArg
import Derived.Test.YtccgbengfmlgbaaWClash
namespace Go.Proofs.Ytccgbengfmlgbaa
set_option linter.unusedVariables false
open Go.ChangeShapes Go.WideShapes Go.ChangeAt Go.RowKit Go.Deep Go.Joins

theorem cells_string : Try.prog.cellsOf 9 = 1 := by kernel_rfl

theorem cells_lclash : Try.prog.cellsOf 32 = 2 := by kernel_rfl

/-- a slice of the laws' tags that came in -/
theorem open_clashes {H : Type} {enc : TypeId × Value → H} {W : World} {base : Nat} {spare : Nat → Bool} {held : Bool} {fuel : Nat} {v : Value} {x : DataW H × List MemPlace}
    (h : DataW.trod enc Try.prog W base spare held fuel 22 [v] = some x) :
    ∃ (a : Option Addr) (cap : Nat) (ts : List Tg), v = .slice a ts.length cap ∧ TagsAt W a ts ∧ ts.length ≤ maxLen ∧ TagsLen ts 9223372036854775807 := by
  rcases open_slice_pairs Try.underlying22 Try.underlying32 cells_lclash rfl rfl cells_string cells_string h with ⟨hcs, _⟩ | ⟨a, len, cap, m, n, V0, V1, D0, D1, P0, P1, hcs, hb, hl, hm, hmm, hx, hi⟩
  · obtain rfl : v = .slice none 0 0 := by simpa using hcs
    exact ⟨none, 0, [], rfl, TagsAt.nil _ _, Nat.zero_le _, fun j h => absurd h (Nat.not_lt_zero _)⟩
  · obtain rfl : v = .slice (some a) len cap := by simpa using hcs
    have hlm : len ≤ m := by rw [hmm]; split <;> omega
    have each : ∀ i, i < len → ∃ q : Tg, W.cell? (a.add (i * 2)) = some (.string q.1) ∧ W.cell? (a.add (i * 2 + 1)) = some (.string q.2) ∧ q.1.size ≤ maxLen ∧ q.2.size ≤ maxLen := by
      intro i hil
      obtain ⟨h0, h1, t0, t1⟩ := hi i (by omega)
      obtain ⟨x0, e0, _, w0⟩ := DataW.trod_string Try.underlying9 t0
      obtain ⟨x1, e1, _, w1⟩ := DataW.trod_string Try.underlying9 t1
      simp only [List.cons.injEq, and_true] at e0 e1
      exact ⟨(x0, x1), by rw [h0, e0], by rw [h1, e1], w0, w1⟩
    obtain ⟨q, hq⟩ := choose_lt each
    have hpx : ∀ i, i < len → tk ((List.range len).map q) i = (q i).1 := fun i hil => by simp [tk, hil]
    have hpy : ∀ i, i < len → tv ((List.range len).map q) i = (q i).2 := fun i hil => by simp [tv, hil]
    refine ⟨some a, cap, (List.range len).map q, by simp, ?_, by simp; omega, ?_⟩
    · intro i hi'
      have hil : i < len := by simpa using hi'
      obtain ⟨h0, h1, _, _⟩ := hq i hil
      obtain ⟨b, off, spot⟩ := a
      have hspot : spot = none := by simpa [Addr.add] using World.cell?_spot (hq 0 (by omega)).1
      subst hspot
      rw [add_plain] at h0 h1
      rw [hpx i hil, hpy i hil]
      refine ⟨b, off, rfl, World.block_lt_of_cell? W _ h0, ?_, ?_⟩
      · exact h0
      · simpa [Nat.add_assoc] using h1
    · intro i hi'
      have hil : i < len := by simpa using hi'
      obtain ⟨_, _, h2, h3⟩ := hq i hil
      unfold maxLen at h2 h3
      rw [hpx i hil, hpy i hil]
      omega

/-- a list of clashes of the laws that came in -/
structure ClashIn (w : World) (a : Option Addr) (ts : List Tg) : Prop where
  reads : TagsAt w a ts
  len : ts.length ≤ 9223372036854775807
  txl : TagsLen ts 9223372036854775807

theorem ClashIn.below {w w' : World} {a : Option Addr} {ts : List Tg} (h : ClashIn w a ts) (hb : Below w.heap.size w w') : ClashIn w' a ts := ⟨h.reads.below hb, h.len, h.txl⟩

/-- a list of clashes that came in as an argument -/
theorem open_clashesT {H : Type} {enc : TypeId × Value → H} {W : World} {r : Reach} {b0 base : Nat} {spare : Nat → Bool} {held : Bool} {v : Value} {d : DataW H} {p : List MemPlace}
    (hv : Value.okWide Try.prog W r b0 22 v) (h : DataW.Trod enc Try.prog W base spare held 22 v d p) :
    ∃ (a : Option Addr) (cap : Nat) (ts : List Tg), v = .slice a ts.length cap ∧ ClashIn W a ts := by
  obtain ⟨a0, len, cap, rfl⟩ := okWide_slice Try.underlying22 hv
  obtain ⟨fuel, hf⟩ := h
  obtain ⟨a, cap, ts, e, h1, h2, h3⟩ := open_clashes hf
  unfold maxLen at h2
  exact ⟨a, cap, ts, e, h1, h2, h3⟩

end Go.Proofs.Ytccgbengfmlgbaa
