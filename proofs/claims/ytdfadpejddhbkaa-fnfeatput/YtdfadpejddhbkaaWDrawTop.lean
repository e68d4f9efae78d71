/- Proved here: a code is opened to a reader; the draws of a shape for the laws of the box and of the area are shapes that can be read; a code that came in as an argument. Codes of at most 1,048,576 bytes. -/
import Derived.Test.YtdfadpejddhbkaaWDrawBent
import Derived.Test.YtdfadpejddhbkaaWArg
namespace Go.Proofs.Ytdfadpejddhbkaa
set_option linter.unusedVariables false
open Go.ChangeShapes Go.WideShapes Go.ChangeAt Go.RowKit Go.Deep

/-- a new reader -/
def Opened (w : World) (a : Option Addr) (n cap : Nat) (e : Ending) (w' : World) : Prop :=
  ∃ R m, e = .returned (.pointer (some ⟨R, 0, none⟩)) ∧ w.heap.size ≤ R ∧ m ≤ 2000 ∧ Rd w' R a m cap 0 ∧ Below w.heap.size w w'

theorem CodeAt.less {w : World} {a : Option Addr} {n m : Nat} (h : CodeAt w a n) (hm : m ≤ n) : CodeAt w a m := fun i hi => h i (by omega)

theorem rd_new {w : World} {a : Option Addr} {n cap : Nat} (h : CodeAt w a n) (t : TypeId) : Rd (w.alloc (.cells #[.slice a n cap, .int .i64 0] t)) w.heap.size a n cap 0 := by
  obtain ⟨c0, c1, c2, c3⟩ := cell_two w (.slice a n cap) (.int .i64 0) t
  refine ⟨c0, c1, c3, h.below ((Below.refl _ _).alloc (Nat.le_refl _) _), fun i hi => ?_, Int.le_refl _⟩
  obtain ⟨b, off, c, e, hlt, _⟩ := h i hi
  rw [e]
  simp [blk]
  omega

set_option maxRecDepth 100000 in
set_option maxHeartbeats 1000000 in
theorem l12Open_any (a : Option Addr) (n cap : Nat) (w : World) (h : CodeAt w a n) (hl : n ≤ 1048576) (hc : n ≤ cap) :
    Calls Try.prog 35 #[.slice a n cap] w (Opened w a n cap) := by
  by_cases hn : n ≤ 2000
  · have hg : ¬ (2000 : Int) < (n : Int) := by omega
    have HR := Lib.hid (rd_new (cap := cap) h 88)
    clear h
    go_enter Try.func35, Try.ntmps35
    go_wp2
    go_ret
    exact ⟨w.heap.size, n, rfl, Nat.le_refl _, hn, HR.out, (Below.refl _ _).alloc (Nat.le_refl _) _⟩
  · have hg : (2000 : Int) < (n : Int) := by omega
    have hc2 : (2000 : Int) ≤ (cap : Int) := by omega
    have HR := Lib.hid (rd_new (cap := cap) (h.less (m := 2000) (by omega)) 88)
    obtain ⟨b, off, c, rfl, _⟩ := h 0 (by omega)
    clear h
    go_enter Try.func35, Try.ntmps35
    go_wp2
    go_ret
    exact ⟨w.heap.size, 2000, rfl, Nat.le_refl _, by omega, HR.out, (Below.refl _ _).alloc (Nat.le_refl _) _⟩

/-- a drawn shape -/
def Drawn (w : World) (e : Ending) (w' : World) : Prop :=
  ∃ (k : Int) (g c2 : Nat) (ps : List (Int × Int)), e = .returned (.agg #[.int .i64 k, .slice (some ⟨g, 0, none⟩) ps.length c2]) ∧ PtsAt w' (some ⟨g, 0, none⟩) ps ∧ ps.length ≤ 7 ∧ Below w.heap.size w w'

set_option maxRecDepth 100000 in
/-- a code that came in -/
theorem open_code {H : Type} {enc : TypeId × Value → H} {W : World} {r : Reach} {b0 base : Nat} {spare : Nat → Bool} {held : Bool} {v : Value} {d : DataW H} {p : List MemPlace}
    (hv : Value.okWide Try.prog W r b0 22 v) (h : DataW.Trod enc Try.prog W base spare held 22 v d p) :
    ∃ (a : Option Addr) (n cap : Nat), v = .slice a n cap ∧ CodeAt W a n ∧ n ≤ cap ∧ n ≤ maxLen := by
  obtain ⟨a0, len, cap, rfl⟩ := okWide_slice Try.underlying22 hv
  obtain ⟨fuel, hf⟩ := h
  rcases open_ints Try.underlying22 Try.underlying5 (by kernel_rfl) hf with ⟨hcs, _⟩ | ⟨x, l, c, zs, hcs, _, hl, hm, hz, _, hcell, hwz⟩
  · simp [Value.cells] at hcs
    obtain ⟨rfl, rfl, rfl⟩ := hcs
    exact ⟨none, 0, 0, rfl, fun i hi => absurd hi (Nat.not_lt_zero _), Nat.le_refl _, Nat.zero_le _⟩
  · simp [Value.cells] at hcs
    obtain ⟨rfl, rfl, rfl⟩ := hcs
    have hlz : len ≤ zs.length := by
      rw [hz]
      split <;> omega
    refine ⟨some x, len, cap, rfl, fun i hi => ?_, hl, by omega⟩
    have h0 := hcell 0 (by omega)
    obtain ⟨b, off, spot⟩ := x
    have hspot : spot = none := by simpa [Addr.add] using World.cell?_spot h0
    subst hspot
    have hi' := hcell i (by omega)
    rw [add_plain] at hi'
    have hb := bounds_u8 (hwz (zs.getD i 0) (by rw [List.getD_eq_getElem?_getD, List.getElem?_eq_getElem (by omega)]; exact List.getElem_mem _))
    exact ⟨b, off, zs.getD i 0, rfl, World.block_lt_of_cell? _ _ hi', hi', hb.1, hb.2⟩
end Go.Proofs.Ytdfadpejddhbkaa
