/- Proved here: the reader of a code picks a number in its bounds and turns nothing but its own place; codes of at most 2,000 bytes. -/
import Derived.Test.YtdfadpejddhbkaaWMark
import Derived.IntWalk
namespace Go.Proofs.Ytdfadpejddhbkaa
set_option linter.unusedVariables false
open Go.ChangeShapes Go.WideShapes Go.ChangeAt Go.RowKit

/-- bytes that can be read -/
def CodeAt (w : World) (a : Option Addr) (n : Nat) : Prop := ∀ i, i < n → ∃ b off, ∃ c : Int, a = some ⟨b, off, none⟩ ∧ b < w.heap.size ∧ w.cell? ⟨b, off + i, none⟩ = some (.int .u8 c) ∧ 0 ≤ c ∧ c ≤ 255

theorem CodeAt.below {w w' : World} {a : Option Addr} {n : Nat} (h : CodeAt w a n) (hb : Below w.heap.size w w') : CodeAt w' a n := by
  intro i hi
  obtain ⟨b, off, c, rfl, hlt, h1, h2⟩ := h i hi
  exact ⟨b, off, c, rfl, Nat.lt_of_lt_of_le hlt hb.size, by rw [hb.cell (p := ⟨b, _, none⟩) hlt]; exact h1, h2⟩

/-- a reader -/
structure Rd (w : World) (R : Nat) (a : Option Addr) (n cap : Nat) (p : Int) : Prop where
  code : w.cell? ⟨R, 0, none⟩ = some (.slice a n cap)
  place : w.cell? ⟨R, 1, none⟩ = some (.int .i64 p)
  soft : w.frozen? ⟨R, 1, none⟩ = false
  bytes : CodeAt w a n
  far : ∀ i, i < n → blk a ≠ some R
  lo : 0 ≤ p

/-- what a pick leaves -/
def Picked (w : World) (R : Nat) (a : Option Addr) (len cap : Nat) (p : Int) (m : Int) (e : Ending) (w' : World) : Prop :=
  ∃ x : Int, e = .returned (.int .i64 x) ∧ 0 ≤ x ∧ x < m ∧ Rd w' R a len cap (p + 1) ∧ w.grownBy w' (some R) ∧ w'.heap.size = w.heap.size

theorem Rd.next {w : World} {R : Nat} {a : Option Addr} {len cap : Nat} {p : Int} (h : Rd w R a len cap p) (n : Nat) : Rd ((w.setCell ⟨R, 1, none⟩ (.int .i64 (p + 1))).drewN n) R a len cap (p + 1) ∧ w.grownBy ((w.setCell ⟨R, 1, none⟩ (.int .i64 (p + 1))).drewN n) (some R) ∧ ((w.setCell ⟨R, 1, none⟩ (.int .i64 (p + 1))).drewN n).heap.size = w.heap.size := by
  have g1 : w.grownBy (w.setCell ⟨R, 1, none⟩ (.int .i64 (p + 1))) (some R) := grown_set (World.grownBy.refl _ _) _ _
  have g2 : w.grownBy ((w.setCell ⟨R, 1, none⟩ (.int .i64 (p + 1))).drewN n) (some R) := ⟨g1.os, g1.tape, g1.output, g1.size, g1.block⟩
  refine ⟨⟨?_, ?_, ?_, ?_, h.far, by have := h.lo; omega⟩, g2, by show (Array.size _) = _; simp [World.setCell]⟩
  · show World.cell? (World.setCell _ _ _) _ = _
    rw [World.cell?_setCell_other _ _ _ _ (by simp)]
    exact h.code
  · show World.cell? (World.setCell _ _ _) _ = _
    exact World.cell?_setCell_same _ _ _ h.place
  · show World.frozen? (World.setCell _ _ _) _ = _
    rw [World.frozen?_setCell]
    exact h.soft
  · intro i hi
    obtain ⟨b, off, c, e, hlt, h1, h2⟩ := h.bytes i hi
    have hne : some b ≠ some R := by have := h.far i hi; rw [e] at this; exact this
    exact ⟨b, off, c, e, Nat.lt_of_lt_of_le hlt g2.size, by rw [g2.cell_far ⟨b, off + i, none⟩ hlt hne]; exact h1, h2⟩

theorem bits_xor_i64 (a b : Nat) (ha : a < 4611686018427387904) (hb : b < 4611686018427387904) : bits .xor .i64 (a : Int) (b : Int) = ((a ^^^ b : Nat) : Int) := by
  have hx : a ^^^ b < 2 ^ 62 := Nat.xor_lt_two_pow (by omega) (by omega)
  have h1 : (BitVec.ofInt 64 (a : Int)).toNat = a := by
    rw [BitVec.ofInt_natCast, BitVec.toNat_ofNat]; exact Nat.mod_eq_of_lt (by omega)
  have h2 : (BitVec.ofInt 64 (b : Int)).toNat = b := by
    rw [BitVec.ofInt_natCast, BitVec.toNat_ofNat]; exact Nat.mod_eq_of_lt (by omega)
  show IntKind.i64.wrap ((BitVec.ofInt 64 (a : Int) ^^^ BitVec.ofInt 64 (b : Int)).toNat : Int) = _
  rw [BitVec.toNat_xor, h1, h2, IntKind.wrap_i64]
  omega

theorem xor_pos (x : Int) (h0 : 0 ≤ x) (h1 : x ≤ 1000000000) : 0 ≤ bits .xor .i64 x (x / 64) := by
  obtain ⟨X, rfl⟩ : ∃ X : Nat, x = (X : Int) := ⟨x.toNat, by omega⟩
  have e : (X : Int) / 64 = ((X / 64 : Nat) : Int) := by omega
  rw [e, bits_xor_i64 _ _ (by omega) (by omega)]
  exact Int.natCast_nonneg _

set_option maxHeartbeats 2000000 in
theorem pick_any (R : Nat) (a : Option Addr) (len cap : Nat) (p m : Int) (w : World) (h : Rd w R a len cap p) (hp : p ≤ 100000) (hl : len ≤ 2000) (hm : 1 ≤ m) (hm2 : m ≤ 1000) :
    Calls Try.prog 59 #[.pointer (some ⟨R, 0, none⟩), .int .i64 m] w (Picked w R a len cap p m) := by
  have q0 := h.code
  have q1 := h.place
  have q2 := h.soft
  have hp0 := h.lo
  have HR := Lib.hid h
  have HN := Lib.hid (h.next 0)
  have hm0 : ¬ m < 1 := by omega
  clear h
  by_cases hz : len = 0
  · subst hz
    go_enter Try.func59, Try.ntmps59
    go_wp2
    go_ret
    exact ⟨0, rfl, by omega, by omega, HN.out⟩
  · have hz' : ((len : Int) == 0) = false := by simpa using hz
    by_cases hk : p < (len : Int)
    · obtain ⟨P, rfl⟩ : ∃ P : Nat, p = (P : Int) := ⟨p.toNat, by omega⟩
      obtain ⟨b, off, c, rfl, hb, hc, hc1, hc2⟩ := HR.out.bytes P (by omega)
      have hne : b ≠ R := by have := HR.out.far P (by omega); simpa [blk] using this
      have m1 : ¬ b = R := hne
      have m2 : ¬ R = b := fun e => hne e.symm
      go_enter Try.func59, Try.ntmps59
      go_wp2
      go_ret
      exact ⟨c % m, rfl, Int.emod_nonneg _ (by omega), Int.emod_lt_of_pos _ (by omega), HN.out⟩
    · obtain ⟨P, rfl⟩ : ∃ P : Nat, p = (P : Int) := ⟨p.toNat, by omega⟩
      have hpos : 0 < len := by omega
      have l1 : P % len < len := Nat.mod_lt _ hpos
      have l2 : (P * 7 + 3) % len < len := Nat.mod_lt _ hpos
      obtain ⟨b, off, c, rfl, hb, hc, hc1, hc2⟩ := HR.out.bytes (P % len) l1
      obtain ⟨b', off', d, he, _, hd, hd1, hd2⟩ := HR.out.bytes ((P * 7 + 3) % len) l2
      obtain ⟨rfl, rfl⟩ : b = b' ∧ off = off' := by simpa using he
      clear he
      have hne : b ≠ R := by have := HR.out.far 0 (by omega); simpa [blk] using this
      have m1 : ¬ b = R := hne
      have m2 : ¬ R = b := fun e => hne e.symm
      have t1 : ((P : Int)).tmod (len : Int) = ((P % len : Nat) : Int) := by rw [Int.tmod_eq_emod_of_nonneg (by omega)]; simp
      have t2 : ((P : Int) * 7 + 3).tmod (len : Int) = (((P * 7 + 3) % len : Nat) : Int) := by rw [Int.tmod_eq_emod_of_nonneg (by omega)]; simp
      have hq : ((P : Int)).tdiv (len : Int) = ((P / len : Nat) : Int) := by rw [Int.tdiv_eq_ediv_of_nonneg (by omega)]; simp
      have hqle : P / len ≤ P := Nat.div_le_self _ _
      generalize P % len = i1 at *
      generalize (P * 7 + 3) % len = i2 at *
      generalize P / len = q at *
      have hlenz : ¬ len = 0 := by omega
      have x1 : IntKind.i64.wrap ((P : Int) * 7) = (P : Int) * 7 := IntWalk.i64_in _ (by omega)
      have x2 : IntKind.i64.wrap ((P : Int) * 7 + 3) = (P : Int) * 7 + 3 := IntWalk.i64_in _ (by omega)
      have x3 : IntKind.i64.wrap (c * 131) = c * 131 := IntWalk.i64_in _ (by omega)
      have x4 : IntKind.i64.wrap (d * 1117) = d * 1117 := IntWalk.i64_in _ (by omega)
      have x5 : IntKind.i64.wrap (c * 131 + d * 1117) = c * 131 + d * 1117 := IntWalk.i64_in _ (by omega)
      have x6 : IntKind.i64.wrap ((P : Int) * 29) = (P : Int) * 29 := IntWalk.i64_in _ (by omega)
      have x7 : IntKind.i64.wrap (c * 131 + d * 1117 + (P : Int) * 29) = c * 131 + d * 1117 + (P : Int) * 29 := IntWalk.i64_in _ (by omega)
      have x8 : IntKind.i64.wrap (q : Int) = (q : Int) := IntWalk.i64_in _ (by omega)
      have x9 : IntKind.i64.wrap ((q : Int) * 53) = (q : Int) * 53 := IntWalk.i64_in _ (by omega)
      have x10 : IntKind.i64.wrap (c * 131 + d * 1117 + (P : Int) * 29 + (q : Int) * 53) = c * 131 + d * 1117 + (P : Int) * 29 + (q : Int) * 53 := IntWalk.i64_in _ (by omega)
      have x11 : IntKind.i64.wrap c = c := IntWalk.i64_in _ (by omega)
      have x12 : IntKind.i64.wrap d = d := IntWalk.i64_in _ (by omega)
      have j1 : (i1 : Int) < (len : Int) := by omega
      have j2 : (i2 : Int) < (len : Int) := by omega
      go_enter Try.func59, Try.ntmps59
      go_wp2
      go_quiet (fail)
      clear x1 x2 x3 x4 x5 x6 x7 x8 x9 x10 x11 x12 t1 t2 hq
      go_wp2
      go_ret
      have hx := xor_pos (c * 131 + d * 1117 + (P : Int) * 29 + (q : Int) * 53) (by omega) (by omega)
      refine ⟨_, rfl, ?_, ?_, HR.out.next nq⟩
      · rw [Int.tmod_eq_emod_of_nonneg hx]
        exact Int.emod_nonneg _ (by omega)
      · rw [Int.tmod_eq_emod_of_nonneg hx]
        exact Int.emod_lt_of_pos _ (by omega)

/-- a list of numbers written out -/
def NumsAt (w : World) (L n : Nat) (lo hi : Int) : Prop := ∀ i, i < n → ∃ z : Int, w.cell? ⟨L, i, none⟩ = some (.int .i64 z) ∧ lo ≤ z ∧ z ≤ hi

set_option maxHeartbeats 2000000 in
theorem num_any (R L n : Nat) (a : Option Addr) (len cap : Nat) (p lo hi : Int) (w : World) (h : Rd w R a len cap p) (hp : p ≤ 100000) (hl : len ≤ 2000) (hn : NumsAt w L n lo hi) (hne : L ≠ R) (h1 : 1 ≤ n) (h2 : n ≤ 100) :
    Calls Try.prog 41 #[.pointer (some ⟨R, 0, none⟩), .slice (some ⟨L, 0, none⟩) n n] w (fun e w' => ∃ x : Int, e = .returned (.int .i64 x) ∧ lo ≤ x ∧ x ≤ hi ∧ Rd w' R a len cap (p + 1) ∧ w.grownBy w' (some R) ∧ w'.heap.size = w.heap.size) := by
  have HR := Lib.hid h
  have HNS := Lib.hid hn
  clear h hn
  go_enter Try.func41, Try.ntmps41
  go_wp2_with fail
  refine (pick_any _ _ _ _ _ _ _ HR.out hp hl (by omega) (by omega)).mono ?_
  rintro e w1 ⟨x, rfl, hx0, hx1, hr, hg, hs⟩
  obtain ⟨X, rfl⟩ : ∃ X : Nat, x = (X : Int) := ⟨x.toNat, by omega⟩
  obtain ⟨z, hz, hz1, hz2⟩ := HNS.out X (by omega)
  have hz' : w1.cell? ⟨L, X, none⟩ = some (.int .i64 z) := (hg.cell_far _ (World.block_lt_of_cell? _ _ hz) (by simpa using hne)).trans hz
  have HP : Hid (Rd w1 R a len cap (p + 1) ∧ w.grownBy w1 (some R) ∧ w1.heap.size = w.heap.size) := ⟨hr, hg, hs⟩
  clear hr hg hs hz
  go_wp2
  go_ret
  exact ⟨z, rfl, hz1, hz2, HP.out⟩
end Go.Proofs.Ytdfadpejddhbkaa
