/- Proved here: the reader of a code picks a number in its bounds and turns nothing but its own place; codes of at most 2,000 bytes. Proved here: the draw of a point is a point from 0 to 5 each way, and turns nothing but the reader's place; codes of at most 2,000 bytes. Proved here: the draws of a name, a key and a value are short texts, and turn nothing but the reader's place; codes of at most 2,000 bytes. Proved here: how a row is laid by appends while a reader goes on beside it: what is kept. No condition. Proved here: the draw of a shape is a shape in memory of its own, and turns nothing but the reader's place; codes of at most 2,000 bytes. Proved here: the draw of a shape, bent or not, is a shape that can be read, in memory of its own, and turns nothing but the reader's place; codes of at most 2,000 bytes. Proved here: the draw of a thing is a thing of at most six points and three tags, in memory of its own, and turns nothing but the reader's place; codes of at most 2,000 bytes. Proved here: the draw of a map is a list of at most four things in memory of its own, and turns nothing but the reader's place; codes of at most 2,000 bytes. Proved here: the draw of a thing that may be bent is a thing of at most seven points and four tags, and turns nothing but the reader's place; codes of at most 2,000 bytes. Proved here: the draw of a map that may be bent is a list of things in memory of its own, and turns nothing but the reader's place; codes of at most 2,000 bytes. Proved here: a code is opened to a reader; the draws of a shape for the laws of the box and of the area are shapes that can be read; a code that came in as an argument. Codes of at most 1,048,576 bytes. Proved here: what DrawSheetPut draws is a list of at most 20 things and a thing, their texts short; code of at most 1,048,576 bytes. -/
import Derived.Test.YtelimcknhaflfaaWMark
import Derived.IntWalk
import Derived.Test.YtelimcknhaflfaaWTag
import Derived.Test.YtelimcknhaflfaaWCopyF
import Derived.Deep.RegionLaw
import Derived.Deep.AppendLies
import Derived.Deep.QuietTactic
import Derived.Deep.RegionHeld3
import Derived.Deep.DeepCutAuto
import Derived.BigQuiet
import Derived.Test.YtelimcknhaflfaaWBox
import Derived.Deep.CutBlock
import Derived.Test.YtelimcknhaflfaaWL2Put
import Derived.Test.YtelimcknhaflfaaWPutRow
import Derived.Lib.AppendZeros
import Derived.Test.YtelimcknhaflfaaWArg
namespace Go.Proofs.Ytelimcknhaflfaa
set_option linter.unusedVariables false
open Go.ChangeShapes Go.WideShapes Go.ChangeAt Go.RowKit

/-- bytes that can be read -/
def CodeAt (w : World) (a : Option Addr) (n : Nat) : Prop := ∀ i, i < n → ∃ b off, ∃ c : Int, a = some ⟨b, off, none⟩ ∧ b < w.heap.size ∧ w.cell? ⟨b, off + i, none⟩ = some (.int .u8 c) ∧ 0 ≤ c ∧ c ≤ 255

theorem CodeAt.below {w w' : World} {a : Option Addr} {n : Nat} (h : CodeAt w a n) (hb : Below w.heap.size w w') : CodeAt w' a n := by
  intro i hi
  obtain ⟨b, off, c, rfl, hlt, h1, h2⟩ := h i hi
  exact ⟨b, off, c, rfl, Nat.lt_of_lt_of_le hlt hb.size, by rw [hb.cell (p := ⟨b, _, none⟩) hlt]; exact h1, h2⟩

/-- a reader -/
structure Rd (w : World) (R : Nat) (a : Option Addr) (n cap : Nat) (p : Int) : Prop where
  code : w.cell? ⟨R, 0, none⟩ = some (.slice a n cap)
  place : w.cell? ⟨R, 1, none⟩ = some (.int .i64 p)
  soft : w.frozen? ⟨R, 1, none⟩ = false
  bytes : CodeAt w a n
  far : ∀ i, i < n → blk a ≠ some R
  lo : 0 ≤ p

/-- what a pick leaves -/
def Picked (w : World) (R : Nat) (a : Option Addr) (len cap : Nat) (p : Int) (m : Int) (e : Ending) (w' : World) : Prop :=
  ∃ x : Int, e = .returned (.int .i64 x) ∧ 0 ≤ x ∧ x < m ∧ Rd w' R a len cap (p + 1) ∧ w.grownBy w' (some R) ∧ w'.heap.size = w.heap.size

theorem Rd.next {w : World} {R : Nat} {a : Option Addr} {len cap : Nat} {p : Int} (h : Rd w R a len cap p) (n : Nat) : Rd ((w.setCell ⟨R, 1, none⟩ (.int .i64 (p + 1))).drewN n) R a len cap (p + 1) ∧ w.grownBy ((w.setCell ⟨R, 1, none⟩ (.int .i64 (p + 1))).drewN n) (some R) ∧ ((w.setCell ⟨R, 1, none⟩ (.int .i64 (p + 1))).drewN n).heap.size = w.heap.size := by
  have g1 : w.grownBy (w.setCell ⟨R, 1, none⟩ (.int .i64 (p + 1))) (some R) := grown_set (World.grownBy.refl _ _) _ _
  have g2 : w.grownBy ((w.setCell ⟨R, 1, none⟩ (.int .i64 (p + 1))).drewN n) (some R) := ⟨g1.os, g1.tape, g1.output, g1.size, g1.block⟩
  refine ⟨⟨?_, ?_, ?_, ?_, h.far, by have := h.lo; omega⟩, g2, by show (Array.size _) = _; simp [World.setCell]⟩
  · show World.cell? (World.setCell _ _ _) _ = _
    rw [World.cell?_setCell_other _ _ _ _ (by simp)]
    exact h.code
  · show World.cell? (World.setCell _ _ _) _ = _
    exact World.cell?_setCell_same _ _ _ h.place
  · show World.frozen? (World.setCell _ _ _) _ = _
    rw [World.frozen?_setCell]
    exact h.soft
  · intro i hi
    obtain ⟨b, off, c, e, hlt, h1, h2⟩ := h.bytes i hi
    have hne : some b ≠ some R := by have := h.far i hi; rw [e] at this; exact this
    exact ⟨b, off, c, e, Nat.lt_of_lt_of_le hlt g2.size, by rw [g2.cell_far ⟨b, off + i, none⟩ hlt hne]; exact h1, h2⟩

theorem bits_xor_i64 (a b : Nat) (ha : a < 4611686018427387904) (hb : b < 4611686018427387904) : bits .xor .i64 (a : Int) (b : Int) = ((a ^^^ b : Nat) : Int) := by
  have hx : a ^^^ b < 2 ^ 62 := Nat.xor_lt_two_pow (by omega) (by omega)
  have h1 : (BitVec.ofInt 64 (a : Int)).toNat = a := by
    rw [BitVec.ofInt_natCast, BitVec.toNat_ofNat]; exact Nat.mod_eq_of_lt (by omega)
  have h2 : (BitVec.ofInt 64 (b : Int)).toNat = b := by
    rw [BitVec.ofInt_natCast, BitVec.toNat_ofNat]; exact Nat.mod_eq_of_lt (by omega)
  show IntKind.i64.wrap ((BitVec.ofInt 64 (a : Int) ^^^ BitVec.ofInt 64 (b : Int)).toNat : Int) = _
  rw [BitVec.toNat_xor, h1, h2, IntKind.wrap_i64]
  omega

theorem xor_pos (x : Int) (h0 : 0 ≤ x) (h1 : x ≤ 1000000000) : 0 ≤ bits .xor .i64 x (x / 64) := by
  obtain ⟨X, rfl⟩ : ∃ X : Nat, x = (X : Int) := ⟨x.toNat, by omega⟩
  have e : (X : Int) / 64 = ((X / 64 : Nat) : Int) := by omega
  rw [e, bits_xor_i64 _ _ (by omega) (by omega)]
  exact Int.natCast_nonneg _

set_option maxHeartbeats 2000000 in
theorem pick_any (R : Nat) (a : Option Addr) (len cap : Nat) (p m : Int) (w : World) (h : Rd w R a len cap p) (hp : p ≤ 100000) (hl : len ≤ 2000) (hm : 1 ≤ m) (hm2 : m ≤ 1000) :
    Calls Try.prog 33 #[.pointer (some ⟨R, 0, none⟩), .int .i64 m] w (Picked w R a len cap p m) := by
  have q0 := h.code
  have q1 := h.place
  have q2 := h.soft
  have hp0 := h.lo
  have HR := Lib.hid h
  have HN := Lib.hid (h.next 0)
  have hm0 : ¬ m < 1 := by omega
  clear h
  by_cases hz : len = 0
  · subst hz
    go_enter Try.func33, Try.ntmps33
    go_wp2
    go_ret
    exact ⟨0, rfl, by omega, by omega, HN.out⟩
  · have hz' : ((len : Int) == 0) = false := by simpa using hz
    by_cases hk : p < (len : Int)
    · obtain ⟨P, rfl⟩ : ∃ P : Nat, p = (P : Int) := ⟨p.toNat, by omega⟩
      obtain ⟨b, off, c, rfl, hb, hc, hc1, hc2⟩ := HR.out.bytes P (by omega)
      have hne : b ≠ R := by have := HR.out.far P (by omega); simpa [blk] using this
      have m1 : ¬ b = R := hne
      have m2 : ¬ R = b := fun e => hne e.symm
      go_enter Try.func33, Try.ntmps33
      go_wp2
      go_ret
      exact ⟨c % m, rfl, Int.emod_nonneg _ (by omega), Int.emod_lt_of_pos _ (by omega), HN.out⟩
    · obtain ⟨P, rfl⟩ : ∃ P : Nat, p = (P : Int) := ⟨p.toNat, by omega⟩
      have hpos : 0 < len := by omega
      have l1 : P % len < len := Nat.mod_lt _ hpos
      have l2 : (P * 7 + 3) % len < len := Nat.mod_lt _ hpos
      obtain ⟨b, off, c, rfl, hb, hc, hc1, hc2⟩ := HR.out.bytes (P % len) l1
      obtain ⟨b', off', d, he, _, hd, hd1, hd2⟩ := HR.out.bytes ((P * 7 + 3) % len) l2
      obtain ⟨rfl, rfl⟩ : b = b' ∧ off = off' := by simpa using he
      clear he
      have hne : b ≠ R := by have := HR.out.far 0 (by omega); simpa [blk] using this
      have m1 : ¬ b = R := hne
      have m2 : ¬ R = b := fun e => hne e.symm
      have t1 : ((P : Int)).tmod (len : Int) = ((P % len : Nat) : Int) := by rw [Int.tmod_eq_emod_of_nonneg (by omega)]; simp
      have t2 : ((P : Int) * 7 + 3).tmod (len : Int) = (((P * 7 + 3) % len : Nat) : Int) := by rw [Int.tmod_eq_emod_of_nonneg (by omega)]; simp
      have hq : ((P : Int)).tdiv (len : Int) = ((P / len : Nat) : Int) := by rw [Int.tdiv_eq_ediv_of_nonneg (by omega)]; simp
      have hqle : P / len ≤ P := Nat.div_le_self _ _
      generalize P % len = i1 at *
      generalize (P * 7 + 3) % len = i2 at *
      generalize P / len = q at *
      have hlenz : ¬ len = 0 := by omega
      have x1 : IntKind.i64.wrap ((P : Int) * 7) = (P : Int) * 7 := IntWalk.i64_in _ (by omega)
      have x2 : IntKind.i64.wrap ((P : Int) * 7 + 3) = (P : Int) * 7 + 3 := IntWalk.i64_in _ (by omega)
      have x3 : IntKind.i64.wrap (c * 131) = c * 131 := IntWalk.i64_in _ (by omega)
      have x4 : IntKind.i64.wrap (d * 1117) = d * 1117 := IntWalk.i64_in _ (by omega)
      have x5 : IntKind.i64.wrap (c * 131 + d * 1117) = c * 131 + d * 1117 := IntWalk.i64_in _ (by omega)
      have x6 : IntKind.i64.wrap ((P : Int) * 29) = (P : Int) * 29 := IntWalk.i64_in _ (by omega)
      have x7 : IntKind.i64.wrap (c * 131 + d * 1117 + (P : Int) * 29) = c * 131 + d * 1117 + (P : Int) * 29 := IntWalk.i64_in _ (by omega)
      have x8 : IntKind.i64.wrap (q : Int) = (q : Int) := IntWalk.i64_in _ (by omega)
      have x9 : IntKind.i64.wrap ((q : Int) * 53) = (q : Int) * 53 := IntWalk.i64_in _ (by omega)
      have x10 : IntKind.i64.wrap (c * 131 + d * 1117 + (P : Int) * 29 + (q : Int) * 53) = c * 131 + d * 1117 + (P : Int) * 29 + (q : Int) * 53 := IntWalk.i64_in _ (by omega)
      have x11 : IntKind.i64.wrap c = c := IntWalk.i64_in _ (by omega)
      have x12 : IntKind.i64.wrap d = d := IntWalk.i64_in _ (by omega)
      have j1 : (i1 : Int) < (len : Int) := by omega
      have j2 : (i2 : Int) < (len : Int) := by omega
      go_enter Try.func33, Try.ntmps33
      go_wp2
      go_quiet (fail)
      clear x1 x2 x3 x4 x5 x6 x7 x8 x9 x10 x11 x12 t1 t2 hq
      go_wp2
      go_ret
      have hx := xor_pos (c * 131 + d * 1117 + (P : Int) * 29 + (q : Int) * 53) (by omega) (by omega)
      refine ⟨_, rfl, ?_, ?_, HR.out.next nq⟩
      · rw [Int.tmod_eq_emod_of_nonneg hx]
        exact Int.emod_nonneg _ (by omega)
      · rw [Int.tmod_eq_emod_of_nonneg hx]
        exact Int.emod_lt_of_pos _ (by omega)

/-- a list of numbers written out -/
def NumsAt (w : World) (L n : Nat) (lo hi : Int) : Prop := ∀ i, i < n → ∃ z : Int, w.cell? ⟨L, i, none⟩ = some (.int .i64 z) ∧ lo ≤ z ∧ z ≤ hi

set_option maxHeartbeats 2000000 in
theorem num_any (R L n : Nat) (a : Option Addr) (len cap : Nat) (p lo hi : Int) (w : World) (h : Rd w R a len cap p) (hp : p ≤ 100000) (hl : len ≤ 2000) (hn : NumsAt w L n lo hi) (hne : L ≠ R) (h1 : 1 ≤ n) (h2 : n ≤ 100) :
    Calls Try.prog 60 #[.pointer (some ⟨R, 0, none⟩), .slice (some ⟨L, 0, none⟩) n n] w (fun e w' => ∃ x : Int, e = .returned (.int .i64 x) ∧ lo ≤ x ∧ x ≤ hi ∧ Rd w' R a len cap (p + 1) ∧ w.grownBy w' (some R) ∧ w'.heap.size = w.heap.size) := by
  have HR := Lib.hid h
  have HNS := Lib.hid hn
  clear h hn
  go_enter Try.func60, Try.ntmps60
  go_wp2_with fail
  refine (pick_any _ _ _ _ _ _ _ HR.out hp hl (by omega) (by omega)).mono ?_
  rintro e w1 ⟨x, rfl, hx0, hx1, hr, hg, hs⟩
  obtain ⟨X, rfl⟩ : ∃ X : Nat, x = (X : Int) := ⟨x.toNat, by omega⟩
  obtain ⟨z, hz, hz1, hz2⟩ := HNS.out X (by omega)
  have hz' : w1.cell? ⟨L, X, none⟩ = some (.int .i64 z) := (hg.cell_far _ (World.block_lt_of_cell? _ _ hz) (by simpa using hne)).trans hz
  have HP : Hid (Rd w1 R a len cap (p + 1) ∧ w.grownBy w1 (some R) ∧ w1.heap.size = w.heap.size) := ⟨hr, hg, hs⟩
  clear hr hg hs hz
  go_wp2
  go_ret
  exact ⟨z, rfl, hz1, hz2, HP.out⟩
end Go.Proofs.Ytelimcknhaflfaa

namespace Go.Proofs.Ytelimcknhaflfaa
set_option linter.unusedVariables false
open Go.ChangeShapes Go.WideShapes Go.ChangeAt Go.RowKit

theorem Rd.lt {w : World} {R : Nat} {a : Option Addr} {len cap : Nat} {p : Int} (h : Rd w R a len cap p) : R < w.heap.size := World.block_lt_of_cell? _ _ h.place

theorem Rd.kept {w w' : World} {R : Nat} {a : Option Addr} {len cap : Nat} {p : Int} {r : Option Nat} (h : Rd w R a len cap p) (hg : w.grownBy w' r) (h1 : r ≠ some R) (h2 : ∀ i, i < len → blk a ≠ r) : Rd w' R a len cap p := by
  refine ⟨(hg.cell_far _ h.lt (Ne.symm h1)).trans h.code, (hg.cell_far _ h.lt (Ne.symm h1)).trans h.place, (hg.frozen_far _ h.lt (Ne.symm h1)).trans h.soft, ?_, h.far, h.lo⟩
  intro i hi
  obtain ⟨b, off, c, e, hlt, h3, h4⟩ := h.bytes i hi
  have hne : some b ≠ r := by have := h2 i hi; rw [e] at this; exact this
  exact ⟨b, off, c, e, Nat.lt_of_lt_of_le hlt hg.size, (hg.cell_far ⟨b, off + i, none⟩ hlt hne).trans h3, h4⟩

theorem Rd.codeLt {w : World} {R : Nat} {a : Option Addr} {len cap : Nat} {p : Int} (h : Rd w R a len cap p) {c : Nat} (hc : w.heap.size ≤ c) : ∀ i, i < len → blk a ≠ some c := by
  intro i hi
  obtain ⟨b, off, x, e, hlt, _⟩ := h.bytes i hi
  rw [e]
  simp [blk]
  omega

theorem Rd.alloc {w : World} {R : Nat} {a : Option Addr} {len cap : Nat} {p : Int} (h : Rd w R a len cap p) (O : Obj) : Rd (w.alloc O) R a len cap p :=
  h.kept (r := none) (World.grownBy_alloc w O none) (by simp) (fun i hi => by obtain ⟨b, off, c, e, _⟩ := h.bytes i hi; rw [e]; simp [blk])

theorem grown_set_new {w w' : World} {r : Option Nat} (h : w.grownBy w' r) {c o : Nat} {v : Value} (hc : w.heap.size ≤ c) : w.grownBy (w'.setCell ⟨c, o, none⟩ v) r :=
  ⟨h.os, h.tape, h.output, Nat.le_trans h.size (by simp [World.setCell]), fun k hk hne => (Below.heap_setCell _ _ _ _ (by show k ≠ c; omega)).trans (h.block k hk hne)⟩

theorem grown_alloc {w w' : World} {r : Option Nat} (h : w.grownBy w' r) (O : Obj) : w.grownBy (w'.alloc O) r := h.trans (World.grownBy_alloc w' O r)

theorem grown_self {w a b : World} {R : Nat} (h : w.grownBy a (some R)) (k : a.grownBy b (some R)) : w.grownBy b (some R) := h.trans k

/-- what drawing a point leaves -/
def PtDrawn (w : World) (R : Nat) (a : Option Addr) (len cap : Nat) (p : Int) (e : Ending) (w' : World) : Prop :=
  ∃ x y : Int, e = .returned (.agg #[.int .i64 x, .int .i64 y]) ∧ (0 ≤ x ∧ x ≤ 5) ∧ (0 ≤ y ∧ y ≤ 5) ∧ Rd w' R a len cap (p + 2) ∧ w.grownBy w' (some R)

set_option maxHeartbeats 2000000 in
theorem l1Pt_any (R : Nat) (a : Option Addr) (len cap : Nat) (p : Int) (w : World) (h : Rd w R a len cap p) (hp : p ≤ 90000) (hl : len ≤ 2000) :
    Calls Try.prog 80 #[.pointer (some ⟨R, 0, none⟩)] w (PtDrawn w R a len cap p) := by
  have HR := Lib.hid h
  have hRlt := h.lt
  clear h
  go_enter Try.func80, Try.ntmps80
  go_wp2_with fail
  refine (pick_any _ _ _ _ _ _ _ (HR.out.alloc _) (by omega) hl (by omega) (by omega)).mono ?_
  rintro e w1 ⟨x, rfl, hx0, hx1, hr, hg, hs⟩
  have t0 : w1.cell? ⟨w.heap.size, 0, none⟩ = some (.int .i64 0) := (hg.cell_far _ (by simp) (by simp; omega)).trans (by simp [go_sem])
  have t1 : w1.cell? ⟨w.heap.size, 1, none⟩ = some (.int .i64 0) := (hg.cell_far _ (by simp) (by simp; omega)).trans (by simp [go_sem])
  have t2 : w1.frozen? ⟨w.heap.size, 0, none⟩ = false := (hg.frozen_far _ (by simp) (by simp; omega)).trans (by simp [go_sem])
  have t3 : w1.frozen? ⟨w.heap.size, 1, none⟩ = false := (hg.frozen_far _ (by simp) (by simp; omega)).trans (by simp [go_sem])
  have hs1 : w1.heap.size = w.heap.size + 1 := by simpa using hs
  have HR1 := Lib.hid hr
  have G1 : Hid (w.grownBy w1 (some R)) := (World.grownBy_alloc w _ _).trans hg
  have HS1 := Lib.hid hs1
  have z0 : w.heap.size < w1.heap.size := by omega
  clear hr hg hs hs1
  go_wp2_with fail
  refine (num_any _ _ 4 _ _ _ _ 0 5 _ (HR1.out.alloc _) (by omega) hl (fun i hi => ?_) (by omega) (by omega) (by omega)).mono ?_
  · have : i = 0 ∨ i = 1 ∨ i = 2 ∨ i = 3 := by omega
    rcases this with rfl | rfl | rfl | rfl
    · exact ⟨0, by simp [go_sem], by omega, by omega⟩
    · exact ⟨1, by simp [go_sem], by omega, by omega⟩
    · exact ⟨2, by simp [go_sem], by omega, by omega⟩
    · exact ⟨5, by simp [go_sem], by omega, by omega⟩
  rintro e w2 ⟨y, rfl, hy0, hy1, hr, hg, hs⟩
  have ba := World.grownBy_alloc w1 (.cells #[.int .i64 0, .int .i64 1, .int .i64 2, .int .i64 5] 3) (some R)
  have hg' := ba.trans hg
  have hne : some w.heap.size ≠ some R := by simp; omega
  replace t0 := (hg'.cell_far ⟨w.heap.size, 0, none⟩ z0 hne).trans t0
  replace t1 := (hg'.cell_far ⟨w.heap.size, 1, none⟩ z0 hne).trans t1
  replace t2 := (hg'.frozen_far ⟨w.heap.size, 0, none⟩ z0 hne).trans t2
  replace t3 := (hg'.frozen_far ⟨w.heap.size, 1, none⟩ z0 hne).trans t3
  have HR2 := Lib.hid hr
  have G2 : Hid (w.grownBy w2 (some R)) := G1.out.trans hg'
  have z2 : w.heap.size < w2.heap.size := Nat.lt_of_lt_of_le z0 hg'.size
  clear hr hg hs ba hg' hne
  go_wp2
  refine bodyPost_ret (v := .agg #[.int .i64 x, .int .i64 y]) (by simp [results, Try.results80, go_sem, t0, t1]) rfl ?_
  refine ⟨x, y, rfl, ⟨hx0, by omega⟩, ⟨hy0, hy1⟩, ?_, grown_set_new (grown_set_new G2.out (Nat.le_refl _)) (Nat.le_refl _)⟩
  have hk : w2.grownBy ((w2.setCell ⟨w.heap.size, 0, none⟩ (.int .i64 x)).setCell ⟨w.heap.size, 1, none⟩ (.int .i64 y)) (some w.heap.size) := grown_set (grown_set (World.grownBy.refl _ _) _ _) _ _
  have := HR2.out.kept hk (by simp; omega) (fun i hi => HR.out.codeLt (Nat.le_refl _) i hi)
  have e : p + 1 + 1 = p + 2 := by omega
  rwa [e] at this
end Go.Proofs.Ytelimcknhaflfaa

namespace Go.Proofs.Ytelimcknhaflfaa
set_option linter.unusedVariables false
open Go.ChangeShapes Go.WideShapes Go.ChangeAt Go.RowKit

/-- a list of short texts written out -/
def TextsAt (w : World) (L n : Nat) : Prop := ∀ i, i < n → ∃ z : ByteArray, w.cell? ⟨L, i, none⟩ = some (.string z) ∧ z.size ≤ 8

/-- what drawing a text leaves -/
def TextDrawn (w : World) (R : Nat) (a : Option Addr) (len cap : Nat) (p : Int) (e : Ending) (w' : World) : Prop :=
  ∃ s : ByteArray, e = .returned (.string s) ∧ s.size ≤ 8 ∧ Rd w' R a len cap (p + 1) ∧ w.grownBy w' (some R)

set_option maxRecDepth 100000 in
set_option maxHeartbeats 2000000 in
theorem of_any (R L n : Nat) (a : Option Addr) (len cap : Nat) (p : Int) (w : World) (h : Rd w R a len cap p) (hp : p ≤ 100000) (hl : len ≤ 2000) (hn : TextsAt w L n) (hne : L ≠ R) (h1 : 1 ≤ n) (h2 : n ≤ 100) :
    Calls Try.prog 36 #[.pointer (some ⟨R, 0, none⟩), .slice (some ⟨L, 0, none⟩) n n] w (TextDrawn w R a len cap p) := by
  have HR := Lib.hid h
  have HNS := Lib.hid hn
  clear h hn
  go_enter Try.func36, Try.ntmps36
  go_wp2_with fail
  refine (pick_any _ _ _ _ _ _ _ HR.out hp hl (by omega) (by omega)).mono ?_
  rintro e w1 ⟨x, rfl, hx0, hx1, hr, hg, hs⟩
  obtain ⟨X, rfl⟩ : ∃ X : Nat, x = (X : Int) := ⟨x.toNat, by omega⟩
  obtain ⟨z, hz, hz1⟩ := HNS.out X (by omega)
  have hz' : w1.cell? ⟨L, X, none⟩ = some (.string z) := (hg.cell_far _ (World.block_lt_of_cell? _ _ hz) (by simpa using hne)).trans hz
  have HP : Hid (Rd w1 R a len cap (p + 1) ∧ w.grownBy w1 (some R)) := ⟨hr, hg⟩
  clear hr hg hs hz
  go_wp2
  go_ret
  exact ⟨z, rfl, hz1, HP.out⟩


set_option maxRecDepth 100000 in
set_option maxHeartbeats 2000000 in
theorem l2Id_any (R : Nat) (a : Option Addr) (len cap : Nat) (p : Int) (w : World) (h : Rd w R a len cap p) (hp : p ≤ 100000) (hl : len ≤ 2000) :
    Calls Try.prog 35 #[.pointer (some ⟨R, 0, none⟩)] w (TextDrawn w R a len cap p) := by
  have HR := Lib.hid h
  have hRlt := h.lt
  clear h
  go_enter Try.func35, Try.ntmps35
  go_wp2_with fail
  refine (of_any _ _ 5 _ _ _ _ _ (HR.out.alloc _) (by omega) hl (fun i hi => ?_) (by omega) (by omega) (by omega)).mono ?_
  · have : i = 0 ∨ i = 1 ∨ i = 2 ∨ i = 3 ∨ i = 4 := by omega
    rcases this with rfl | rfl | rfl | rfl | rfl
    · exact ⟨⟨#[97]⟩, by simp [go_sem], by decide⟩
    · exact ⟨⟨#[98]⟩, by simp [go_sem], by decide⟩
    · exact ⟨⟨#[99]⟩, by simp [go_sem], by decide⟩
    · exact ⟨⟨#[100]⟩, by simp [go_sem], by decide⟩
    · exact ⟨⟨#[101]⟩, by simp [go_sem], by decide⟩
  rintro e w1 ⟨s, rfl, hs, hr, hg⟩
  have HP : Hid (Rd w1 R a len cap (p + 1) ∧ w.grownBy w1 (some R)) := ⟨hr, (World.grownBy_alloc w _ _).trans hg⟩
  clear hr hg
  go_wp2
  go_ret
  exact ⟨s, rfl, hs, HP.out⟩


set_option maxRecDepth 100000 in
set_option maxHeartbeats 2000000 in
theorem l2Key_any (R : Nat) (a : Option Addr) (len cap : Nat) (p : Int) (w : World) (h : Rd w R a len cap p) (hp : p ≤ 100000) (hl : len ≤ 2000) :
    Calls Try.prog 58 #[.pointer (some ⟨R, 0, none⟩)] w (TextDrawn w R a len cap p) := by
  have HR := Lib.hid h
  have hRlt := h.lt
  clear h
  go_enter Try.func58, Try.ntmps58
  go_wp2_with fail
  refine (of_any _ _ 4 _ _ _ _ _ (HR.out.alloc _) (by omega) hl (fun i hi => ?_) (by omega) (by omega) (by omega)).mono ?_
  · have : i = 0 ∨ i = 1 ∨ i = 2 ∨ i = 3 := by omega
    rcases this with rfl | rfl | rfl | rfl
    · exact ⟨⟨#[110, 97, 109, 101]⟩, by simp [go_sem], by decide⟩
    · exact ⟨⟨#[107, 105, 110, 100]⟩, by simp [go_sem], by decide⟩
    · exact ⟨⟨#[117, 115, 101]⟩, by simp [go_sem], by decide⟩
    · exact ⟨⟨#[116, 111, 110, 101]⟩, by simp [go_sem], by decide⟩
  rintro e w1 ⟨s, rfl, hs, hr, hg⟩
  have HP : Hid (Rd w1 R a len cap (p + 1) ∧ w.grownBy w1 (some R)) := ⟨hr, (World.grownBy_alloc w _ _).trans hg⟩
  clear hr hg
  go_wp2
  go_ret
  exact ⟨s, rfl, hs, HP.out⟩


set_option maxRecDepth 100000 in
set_option maxHeartbeats 2000000 in
theorem l2Val_any (R : Nat) (a : Option Addr) (len cap : Nat) (p : Int) (w : World) (h : Rd w R a len cap p) (hp : p ≤ 100000) (hl : len ≤ 2000) :
    Calls Try.prog 59 #[.pointer (some ⟨R, 0, none⟩)] w (TextDrawn w R a len cap p) := by
  have HR := Lib.hid h
  have hRlt := h.lt
  clear h
  go_enter Try.func59, Try.ntmps59
  go_wp2_with fail
  refine (of_any _ _ 5 _ _ _ _ _ (HR.out.alloc _) (by omega) hl (fun i hi => ?_) (by omega) (by omega) (by omega)).mono ?_
  · have : i = 0 ∨ i = 1 ∨ i = 2 ∨ i = 3 ∨ i = 4 := by omega
    rcases this with rfl | rfl | rfl | rfl | rfl
    · exact ⟨⟨#[97]⟩, by simp [go_sem], by decide⟩
    · exact ⟨⟨#[98]⟩, by simp [go_sem], by decide⟩
    · exact ⟨⟨#[111, 97, 107]⟩, by simp [go_sem], by decide⟩
    · exact ⟨⟨#[97, 115, 104]⟩, by simp [go_sem], by decide⟩
    · exact ⟨⟨#[114, 111, 97, 100]⟩, by simp [go_sem], by decide⟩
  rintro e w1 ⟨s, rfl, hs, hr, hg⟩
  have HP : Hid (Rd w1 R a len cap (p + 1) ∧ w.grownBy w1 (some R)) := ⟨hr, (World.grownBy_alloc w _ _).trans hg⟩
  clear hr hg
  go_wp2
  go_ret
  exact ⟨s, rfl, hs, HP.out⟩

end Go.Proofs.Ytelimcknhaflfaa

namespace Go.Proofs.Ytelimcknhaflfaa
set_option linter.unusedVariables false
open Go.ChangeShapes Go.WideShapes Go.ChangeAt Go.RowKit

theorem cell_two (w : World) (x y : Value) (t : TypeId) : (w.alloc (.cells #[x, y] t)).cell? ⟨w.heap.size, 0, none⟩ = some x ∧ (w.alloc (.cells #[x, y] t)).cell? ⟨w.heap.size, 1, none⟩ = some y ∧ (w.alloc (.cells #[x, y] t)).frozen? ⟨w.heap.size, 0, none⟩ = false ∧ (w.alloc (.cells #[x, y] t)).frozen? ⟨w.heap.size, 1, none⟩ = false := by
  refine ⟨?_, ?_, ?_, ?_⟩ <;> simp [go_sem]

theorem below_grown {a b : World} {r : Option Nat} (h : Below a.heap.size a b) : a.grownBy b r := ⟨h.os, h.tape, h.output, h.size, fun k hk _ => h.block k hk⟩

/-- of old memory but two blocks have turned -/
structure Kept2 (c d : Nat) (w w' : World) : Prop where
  os : w'.os = w.os
  tape : w'.tape = w.tape
  output : w'.output = w.output
  size : w.heap.size ≤ w'.heap.size
  block : ∀ k, k < w.heap.size → k ≠ c → k ≠ d → w'.heap[k]? = w.heap[k]?

theorem Kept2.refl (c d : Nat) (w : World) : Kept2 c d w w := ⟨rfl, rfl, rfl, Nat.le_refl _, fun _ _ _ _ => rfl⟩

theorem Kept2.then {c d : Nat} {a b e : World} {r : Option Nat} (h : Kept2 c d a b) (k : b.grownBy e r) (hr : ∀ j, r = some j → a.heap.size ≤ j ∨ j = c ∨ j = d) : Kept2 c d a e :=
  ⟨k.os.trans h.os, k.tape.trans h.tape, k.output.trans h.output, Nat.le_trans h.size k.size, fun i hi h1 h2 =>
    (k.block i (Nat.lt_of_lt_of_le hi h.size) (fun e => by rcases hr i e.symm with h' | h' | h'; (omega); (exact h1 h'); (exact h2 h'))).trans (h.block i hi h1 h2)⟩

theorem Kept2.cell {c d : Nat} {w w' : World} (h : Kept2 c d w w') {b o : Nat} {v : Value} (hv : w.cell? ⟨b, o, none⟩ = some v) (h1 : b ≠ c) (h2 : b ≠ d) : w'.cell? ⟨b, o, none⟩ = some v :=
  (World.cell?_of_block (w := w) (h.block b (World.block_lt_of_cell? _ _ hv) h1 h2)).trans hv

theorem Kept2.frozen {c d : Nat} {w w' : World} (h : Kept2 c d w w') {b o : Nat} (hb : b < w.heap.size) (h1 : b ≠ c) (h2 : b ≠ d) : w'.frozen? ⟨b, o, none⟩ = w.frozen? ⟨b, o, none⟩ :=
  World.frozen?_of_block (w := w) (h.block b hb h1 h2)

/-- a shape's box whose points are laid by appends, beside a reader -/
structure Lay2 (W : World) (c R : Nat) (k : Int) (qs : List (Int × Int)) (wr : World) (v : Value) : Prop where
  own : wr.ownsRow W.heap.size 74 2 v qs.length (flat qs)
  kept : Kept2 c R W wr
  kind : wr.cell? ⟨c, 0, none⟩ = some (.int .i64 k)
  pts : wr.cell? ⟨c, 1, none⟩ = some v
  soft : wr.frozen? ⟨c, 1, none⟩ = false
  soft0 : wr.frozen? ⟨c, 0, none⟩ = false

/-- the reader goes on, or memory is made -/
theorem Lay2.read {W wr w1 : World} {c R : Nat} {k : Int} {qs : List (Int × Int)} {v : Value} (h : Lay2 W c R k qs wr v) (hg : wr.grownBy w1 (some R)) (hR : R < W.heap.size) (hne : c ≠ R) : Lay2 W c R k qs w1 v := by
  have hlt : c < wr.heap.size := World.block_lt_of_cell? _ _ h.kind
  have hne' : some c ≠ some R := by simpa using hne
  refine ⟨World.ownsRow.kept h.own hg ?_, h.kept.then hg (fun j e => .inr (.inr (by simpa using e.symm))), (hg.cell_far _ hlt hne').trans h.kind, (hg.cell_far _ hlt hne').trans h.pts, (hg.frozen_far _ hlt hne').trans h.soft, (hg.frozen_far _ hlt hne').trans h.soft0⟩
  right
  intro e
  have := (h.own.lt R e).1
  omega

theorem Lay2.alloc {W wr : World} {c R : Nat} {k : Int} {qs : List (Int × Int)} {v : Value} (h : Lay2 W c R k qs wr v) (O : Obj) (hR : R < W.heap.size) (hne : c ≠ R) : Lay2 W c R k qs (wr.alloc O) v :=
  h.read (World.grownBy_alloc wr O (some R)) hR hne

theorem Lay2.drewN {W wr : World} {c R : Nat} {k : Int} {qs : List (Int × Int)} {v : Value} (h : Lay2 W c R k qs wr v) (n : Nat) : Lay2 W c R k qs (wr.drewN n) v :=
  ⟨h.own, ⟨h.kept.os, h.kept.tape, h.kept.output, h.kept.size, h.kept.block⟩, h.kind, h.pts, h.soft, h.soft0⟩

/-- what an append leaves of the box -/
theorem Lay2.after {W wr wb wa : World} {c R : Nat} {k : Int} {qs : List (Int × Int)} {v : Value} (h : Lay2 W c R k qs wr v) (hc : c < W.heap.size) (hwb : Below wr.heap.size wr wb) (hg : wb.grownBy wa v.ownBlock) :
    wa.cell? ⟨c, 0, none⟩ = some (.int .i64 k) ∧ wa.cell? ⟨c, 1, none⟩ = some v ∧ wa.frozen? ⟨c, 1, none⟩ = false ∧ wa.frozen? ⟨c, 0, none⟩ = false := by
  have hlt : c < wr.heap.size := Nat.lt_of_lt_of_le hc h.kept.size
  have hb : ∀ j, v.ownBlock = some j → W.heap.size ≤ j := fun j hj => (h.own.lt j hj).1
  have hne : some c ≠ v.ownBlock := fun e => by have := hb c e.symm; omega
  have hca : c < wb.heap.size := Nat.lt_of_lt_of_le hlt hwb.size
  refine ⟨?_, ?_, ?_, ?_⟩
  · rw [hg.cell_far _ hca hne, hwb.cell (p := ⟨c, _, none⟩) hlt]
    exact h.kind
  · rw [hg.cell_far _ hca hne, hwb.cell (p := ⟨c, _, none⟩) hlt]
    exact h.pts
  · rw [hg.frozen_far _ hca hne, hwb.frozen (p := ⟨c, _, none⟩) hlt]
    exact h.soft
  · rw [hg.frozen_far _ hca hne, hwb.frozen (p := ⟨c, _, none⟩) hlt]
    exact h.soft0

theorem Lay2.step {W wr wb wa : World} {c R : Nat} {k : Int} {qs : List (Int × Int)} {v v' : Value} {p : Int × Int} (h : Lay2 W c R k qs wr v) (hc : c < W.heap.size)
    (hown : wa.ownsRow W.heap.size 74 2 v' (qs.length + 1) (flat qs ++ [.int .i64 p.1, .int .i64 p.2])) (hwb : Below wr.heap.size wr wb) (hg : wb.grownBy wa v.ownBlock) :
    Lay2 W c R k (qs ++ [p]) (wa.setCell ⟨c, 1, none⟩ v') v' := by
  obtain ⟨k1, k2, k3, k4⟩ := h.after hc hwb hg
  have hb : ∀ j, v.ownBlock = some j → W.heap.size ≤ j := fun j hj => (h.own.lt j hj).1
  have g1 : Kept2 c R W wa := (h.kept.then (below_grown hwb) (r := none) (fun j e => by simp at e)).then hg (fun j e => .inl (hb j e))
  have g2 : wa.grownBy (wa.setCell ⟨c, 1, none⟩ v') (some c) := grown_set (World.grownBy.refl _ _) _ _
  refine ⟨?_, g1.then g2 (fun j e => .inr (.inl (by simpa using e.symm))), ?_, ?_, ?_, ?_⟩
  · rw [flat_snoc, List.length_append]
    exact World.ownsRow.kept hown g2 (by
      right
      intro e
      have := (hown.lt c e).1
      omega)
  · rw [World.cell?_setCell_other _ _ _ _ (by simp)]
    exact k1
  · exact World.cell?_setCell_same _ _ _ k2
  · rw [World.frozen?_setCell]
    exact k3
  · rw [World.frozen?_setCell]
    exact k4

/-- a reader beside an append -/
theorem Rd.appended {W wr wb wa : World} {c R : Nat} {k : Int} {qs : List (Int × Int)} {v v' : Value} {a : Option Addr} {len cap : Nat} {p : Int} (hL : Lay2 W c R k qs wr v) (h : Rd wr R a len cap p) (hR : R < W.heap.size) (hcR : c ≠ R) (hcode : ∀ i, i < len → ∀ x, blk a = some x → x < W.heap.size ∧ x ≠ c)
    (hwb : Below wr.heap.size wr wb) (hg : wb.grownBy wa v.ownBlock) : Rd (wa.setCell ⟨c, 1, none⟩ v') R a len cap p := by
  have hb : ∀ j, v.ownBlock = some j → W.heap.size ≤ j := fun j hj => (hL.own.lt j hj).1
  have r1 : Rd wb R a len cap p := h.kept (r := none) (below_grown hwb) (by simp) (fun i hi => by obtain ⟨b, off, c, e, _⟩ := h.bytes i hi; rw [e]; simp [blk])
  have r2 : Rd wa R a len cap p := r1.kept hg (fun e => by have := hb R e; omega) (fun i hi e => by
    obtain ⟨b, off, c, e', _⟩ := h.bytes i hi
    have hx : blk a = some b := by rw [e']; rfl
    have := hb b (by rw [← e, hx])
    have := (hcode i hi b hx).1
    omega)
  exact r2.kept (grown_set (World.grownBy.refl wa (some c)) _ _) (by simpa using hcR) (fun i hi e => by
    obtain ⟨b, off, x, e', _⟩ := h.bytes i hi
    have hx : blk a = some b := by rw [e']; rfl
    have := (hcode i hi b hx).2
    rw [hx] at e
    simp at e
    exact this e)
end Go.Proofs.Ytelimcknhaflfaa

namespace Go.Proofs.Ytelimcknhaflfaa
set_option linter.unusedVariables false
open Go.ChangeShapes Go.WideShapes Go.ChangeAt Go.RowKit

theorem Rd.drew {w : World} {R : Nat} {a : Option Addr} {len cap : Nat} {p : Int} (h : Rd w R a len cap p) : Rd w.drew R a len cap p := ⟨h.code, h.place, h.soft, h.bytes, h.far, h.lo⟩
theorem Rd.drewN {w : World} {R : Nat} {a : Option Addr} {len cap : Nat} {p : Int} (h : Rd w R a len cap p) (n : Nat) : Rd (w.drewN n) R a len cap p := ⟨h.code, h.place, h.soft, h.bytes, h.far, h.lo⟩

/-- what drawing a shape leaves -/
def ShapeDrawn (w : World) (R : Nat) (a : Option Addr) (len cap : Nat) (p : Int) (e : Ending) (w' : World) : Prop :=
  ∃ (k : Int) (g c2 : Nat) (ps : List (Int × Int)) (p' : Int), e = .returned (.agg #[.int .i64 k, .slice (some ⟨g, 0, none⟩) ps.length c2]) ∧ w'.ownsRow w.heap.size 74 2 (.slice (some ⟨g, 0, none⟩) ps.length c2) ps.length (flat ps) ∧ (0 < ps.length ∧ ps.length ≤ 6) ∧ (ps.length ≤ c2 ∧ c2 ≤ maxLen) ∧ Rd w' R a len cap p' ∧ p' ≤ p + 40 ∧ w.grownBy w' (some R)

theorem kept_grown {w W wr : World} {c R : Nat} (h : w.grownBy W (some R)) (k : Kept2 c R W wr) (hc : w.heap.size ≤ c) : w.grownBy wr (some R) :=
  ⟨k.os.trans h.os, k.tape.trans h.tape, k.output.trans h.output, Nat.le_trans h.size k.size, fun i hi hne => (k.block i (Nat.lt_of_lt_of_le hi h.size) (by omega) (fun e => hne (by rw [e]))).trans (h.block i hi hne)⟩

theorem owns_base {w : World} {base base' : Nat} {e : TypeId} {size : Nat} {v : Value} {n : Nat} {xs : List Value} (h : w.ownsRow base e size v n xs) (hb : base' ≤ base) : w.ownsRow base' e size v n xs := by
  obtain ⟨h1, h2 | ⟨g, cap, cur, h3, h4, h5⟩⟩ := h
  · exact ⟨h1, .inl h2⟩
  · exact ⟨h1, .inr ⟨g, cap, cur, h3, by omega, h5⟩⟩

theorem owns_set {w : World} {base : Nat} {e : TypeId} {size : Nat} {v : Value} {n : Nat} {xs : List Value} (h : w.ownsRow base e size v n xs) {c o : Nat} {x : Value} (hne : v.ownBlock ≠ some c) : (w.setCell ⟨c, o, none⟩ x).ownsRow base e size v n xs :=
  World.ownsRow.kept h (grown_set (World.grownBy.refl w (some c)) o x) (.inr hne)

/-- a round's state -/
def Drawing (W : World) (c R : Nat) (a : Option Addr) (len cap : Nat) (p : Int) (k : Int) (j : Nat) (wr : World) : Prop :=
  ∃ (v : Value) (qs : List (Int × Int)) (p' : Int), Lay2 W c R k qs wr v ∧ Rd wr R a len cap p' ∧ p' ≤ p + 2 + 2 * (j : Int) ∧ qs.length ≤ 6

set_option maxRecDepth 100000 in
set_option maxHeartbeats 4000000 in
theorem l1Shape_any (R : Nat) (a : Option Addr) (len cap : Nat) (p : Int) (w : World) (h : Rd w R a len cap p) (hp : p ≤ 80000) (hl : len ≤ 2000) :
    Calls Try.prog 56 #[.pointer (some ⟨R, 0, none⟩)] w (ShapeDrawn w R a len cap p) := by
  have HR := Lib.hid h
  have hRlt := h.lt
  clear h
  obtain ⟨i0, hi, hz0, hz1, hz2⟩ := info_parts infoPt
  have HI := Lib.hid hi
  have HZ0 := Lib.hid hz0
  have HZ1 := Lib.hid hz1
  have HZ2 := Lib.hid hz2
  clear hi hz0 hz1 hz2
  go_enter Try.func56, Try.ntmps56
  go_wp2_with fail
  refine (num_any _ _ 5 _ _ _ _ 1 3 _ ((HR.out.alloc _).alloc _) (by omega) hl (fun i hi => ?_) (by omega) (by omega) (by omega)).mono ?_
  · have : i = 0 ∨ i = 1 ∨ i = 2 ∨ i = 3 ∨ i = 4 := by omega
    rcases this with rfl | rfl | rfl | rfl | rfl
    · exact ⟨1, by simp [go_sem], by omega, by omega⟩
    · exact ⟨2, by simp [go_sem], by omega, by omega⟩
    · exact ⟨2, by simp [go_sem], by omega, by omega⟩
    · exact ⟨3, by simp [go_sem], by omega, by omega⟩
    · exact ⟨3, by simp [go_sem], by omega, by omega⟩
  rintro e w1 ⟨k, rfl, hk0, hk1, hr, hg, hs⟩
  have t0 : w1.cell? ⟨w.heap.size, 0, none⟩ = some (.int .i64 0) := (hg.cell_far _ (by simp; try omega) (by simp; omega)).trans (by simp [go_sem])
  have t1 : w1.cell? ⟨w.heap.size, 1, none⟩ = some (.slice none 0 0) := (hg.cell_far _ (by simp; try omega) (by simp; omega)).trans (by simp [go_sem])
  have t2 : w1.frozen? ⟨w.heap.size, 0, none⟩ = false := (hg.frozen_far _ (by simp; try omega) (by simp; omega)).trans (by simp [go_sem])
  have t3 : w1.frozen? ⟨w.heap.size, 1, none⟩ = false := (hg.frozen_far _ (by simp; try omega) (by simp; omega)).trans (by simp [go_sem])
  have hs1 : w1.heap.size = w.heap.size + 1 + 1 := by simpa using hs
  have z0 : w.heap.size < w1.heap.size := by omega
  have zR : R < w1.heap.size := by omega
  have G1 : Hid (w.grownBy w1 (some R)) := ((World.grownBy_alloc w _ _).trans (World.grownBy_alloc _ _ _)).trans hg
  have ba : Below w1.heap.size w1 (w1.alloc (.cells #[.int .i64 k, .slice none 0 0] 26)) := (Below.refl _ _).alloc (Nat.le_refl _) _
  have T0 := Lib.hid (cell_later ba t0)
  have T1 := Lib.hid (cell_later ba t1)
  have T2 := Lib.hid ((ba.frozen (p := ⟨w.heap.size, 0, none⟩) z0).trans t2)
  have T3 := Lib.hid ((ba.frozen (p := ⟨w.heap.size, 1, none⟩) z0).trans t3)
  have HR1 := Lib.hid (hr.alloc (.cells #[.int .i64 k, .slice none 0 0] 26))
  have GW : Hid (w.grownBy (w1.alloc (.cells #[.int .i64 k, .slice none 0 0] 26)) (some R)) := grown_alloc G1.out _
  have hcode : Hid (∀ i, i < len → ∀ x, blk a = some x → x < w.heap.size) := fun i hi x hx => by
    obtain ⟨b, off, c, e, hlt, _⟩ := HR.out.bytes i hi
    rw [e] at hx
    obtain rfl : b = x := by simpa [blk] using hx
    exact hlt
  have L0 : Hid (Lay2 (w1.alloc (.cells #[.int .i64 k, .slice none 0 0] 26)) w1.heap.size R k [] (w1.alloc (.cells #[.int .i64 k, .slice none 0 0] 26)) (.slice none 0 0)) := by
    obtain ⟨c1, c2, c3, c4⟩ := cell_two w1 (.int .i64 k) (.slice none 0 0) 26
    exact ⟨by simpa [flat] using World.ownsRow_nil _ _ _ _, Kept2.refl _ _ _, c1, c2, c4, c3⟩
  have y0 : w1.heap.size < (w1.alloc (.cells #[.int .i64 k, .slice none 0 0] 26)).heap.size := by simp
  clear hr hg hs hs1 t0 t1 t2 t3 ba
  go_upto_region 2 with (fail)
  generalize (w1.alloc (.cells #[.int .i64 k, .slice none 0 0] 26)) = W at *
  have s0 := L0.out.kind
  go_cut [4] (fun s4 wx => ∃ want : Int, s4 = .int .i64 want ∧ 1 ≤ want ∧ want ≤ 6 ∧ Drawing W w1.heap.size R a len cap p k 0 wx)
  case first =>
    go_region_held3 (fun w' => w'.cell? ⟨w1.heap.size, 0, none⟩ = some (.int .i64 k))
      (first
        | exact s0
        | exact (hg.cell_far ⟨w1.heap.size, 0, none⟩ y0 (by simp; omega)).trans s0)
      (first
        | (go_at_call 33
           refine (pick_any R a len cap (p + 1) 4 _ ?_ (by omega) hl (by omega) (by omega)).mono ?_
           · (exact HR1.out.drew)
           rintro e wn ⟨x, rfl, hx0, hx1, hr, hg, hs⟩))
    all_goals (go_wp2_with fail; go_meet)
    all_goals exact ⟨k + x, by rw [IntWalk.i64_in _ (by omega)], by omega, by omega, _, [], p + 1 + 1, L0.out.read ⟨hg.os, hg.tape, hg.output, hg.size, hg.block⟩ (by omega) (by omega), hr, by omega, by simp⟩
  case rest =>
    obtain ⟨want0, rfl, hw1, hw2, hD⟩ := hcut
    have HD := Lib.hid hD
    have s1 : wc.cell? ⟨w1.heap.size, 0, none⟩ = some (.int .i64 k) := by obtain ⟨v, qs, p', hL, _⟩ := hD; exact hL.kind
    clear hD L0 s0
    go_upto_if 19 with (fail)
    go_cut [4] (fun s4 wx => ∃ want : Int, s4 = .int .i64 want ∧ 1 ≤ want ∧ want ≤ 6 ∧ Drawing W w1.heap.size R a len cap p k 0 wx)
    case first =>
      go_wp2
      all_goals go_meet
      · exact ⟨1, rfl, by omega, by omega, HD.out⟩
      · exact ⟨want0, rfl, hw1, hw2, HD.out⟩
    case rest =>
      clear HD hw1 hw2 s1
      obtain ⟨want, rfl, hw1, hw2, hD⟩ := hcut
      have HD := Lib.hid hD
      clear hD
      go_upto_block 0 with (fail)
      go_cut [5] (fun _ wx => Drawing W w1.heap.size R a len cap p k 12 wx)
      case first =>
        go_wp2
        go_loopw [5, 6, 7] (fun i _ _ wr => ∃ j : Nat, j ≤ 12 ∧ i = .int .i64 j ∧ Drawing W w1.heap.size R a len cap p k j wr) (fun i _ _ _ => 12 - (intOf i).toNat)
        case atStart => exact ⟨0, by omega, rfl, HD.out⟩
        case round =>
          clear HD
          obtain ⟨j, hj, rfl, v, qs, p', hL, hr, hp', hq⟩ := hrel
          obtain ⟨a2, cap2, rfl, hpt, hso, hnew⟩ := owned_pts hL.own rfl
          have d0 := hL.kind
          have d1 := hL.pts
          have HL := Lib.hid hL
          have HR2 := Lib.hid hr
          have HPT := Lib.hid hpt
          have HNEW := Lib.hid hnew
          have HP' := Lib.hid hp'
          clear hL hr hpt hso hnew hp'
          by_cases hj12 : j < 12
          · have b1 : decide ((j : Int) < 12) = true := by simp; omega
            by_cases hmin : (qs.length : Int) < min want 6
            · have b2 : decide ((qs.length : Int) < min want 6) = true := by simpa using hmin
              go_wp2
              go_quiet ((go_at_call 79; exact Calls.quiet_of_same (l1Min_any _ _ _)))
              go_wp2_with fail
              refine (l1Pt_any _ _ _ _ _ _ (HR2.out.drewN _) (by have := HP'.out; omega) hl).mono ?_
              rintro e w2 ⟨x, y, rfl, ⟨hx0, hx1⟩, ⟨hy0, hy1⟩, hr3, hg3⟩
              have hL2 := (HL.out.drewN nq).read hg3 (by omega) (by omega)
              have hL3 := hL2.alloc (.cells #[.int .i64 x, .int .i64 y] 74) (by omega) (by omega)
              have HL3 := Lib.hid hL3
              have HR3 := Lib.hid (hr3.alloc (.cells #[.int .i64 x, .int .i64 y] 74))
              have e0 := hL3.kind
              have e1 := hL3.pts
              have e2 := hL3.soft
              have u0 : (w2.alloc (.cells #[.int .i64 x, .int .i64 y] 74)).cell? ⟨w2.heap.size, 0, none⟩ = some (.int .i64 x) := by simp [go_sem]
              have u1 : (w2.alloc (.cells #[.int .i64 x, .int .i64 y] 74)).cell? ⟨w2.heap.size, 1, none⟩ = some (.int .i64 y) := by simp [go_sem]
              have HPT3 : Hid (PtsAt (w2.alloc (.cells #[.int .i64 x, .int .i64 y] 74)) a2 qs) := by
                obtain ⟨a3, cap3, e3, h3, _, _⟩ := owned_pts hL3.own rfl
                obtain ⟨rfl, rfl⟩ : a2 = a3 ∧ cap2 = cap3 := by simpa using e3
                exact h3
              have HCODE : Hid (∀ i, i < len → ∀ x, blk a = some x → x < W.heap.size ∧ x ≠ w1.heap.size) := fun i hi x hx => by have := hcode.out i hi x hx; omega
              have hsz3 : W.heap.size ≤ (w2.alloc (.cells #[.int .i64 x, .int .i64 y] 74)).heap.size := hL3.kept.size
              clear hL2 hL3 hr3 hg3 d0 d1
              go_upto_region 10 with (fail)
              generalize (w2.alloc (.cells #[.int .i64 x, .int .i64 y] 74)) = W3 at *
              have hneq := run_ptNeq
              have hq5 : qs.length ≤ 5 := by have := Int.le_trans (Int.le_of_lt hmin) (Int.min_le_right want 6); omega
              clear hmin b1 b2
              by_cases hn : qs.length = 0
              · have g1 : ((qs.length : Int) == 0) = true := by simp [hn]
                clear hn
                go_wp2
                go_quiet (fail)
                have HL4 := Lib.hid (HL3.out.drewN nq)
                have HR4 := Lib.hid (HR3.out.drewN nq)
                have v1 : (W3.drewN nq).cell? ⟨w1.heap.size, 1, none⟩ = _ := e1
                have v2 : (W3.drewN nq).frozen? ⟨w1.heap.size, 1, none⟩ = _ := e2
                have v3 : (W3.drewN nq).cell? ⟨w2.heap.size, 0, none⟩ = _ := u0
                have v4 : (W3.drewN nq).cell? ⟨w2.heap.size, 1, none⟩ = _ := u1
                have v5 : W.heap.size ≤ (W3.drewN nq).heap.size := hsz3
                generalize W3.drewN nq = W4 at *
                have v6 : w2.heap.size < W4.heap.size := World.block_lt_of_cell? _ _ v3
                have v7 : w1.heap.size < W4.heap.size := World.block_lt_of_cell? _ _ v1
                clear e0 e1 e2 u0 u1 HL3 HR3
                go_wp2_with (at_builtin; refine wpList_append_lies _ (by rfl) _ _ _ (by rfl) W.heap.size 74 i0 _ 2 16 Try.underlying24 HI.out HZ0.out HZ1.out HZ2.out rfl (by omega) _ qs.length (flat qs) (by rfl) (HL4.out.own.alloc _) ⟨W4.heap.size, 0, none⟩ 1 1 [.int .i64 x, .int .i64 y] (by rfl) (by rfl) (World.news_of_block (cs := #[.int .i64 x, .int .i64 y]) (t := 74) (fr := (0, 0)) (heap_alloc_new W4 _)) (by simp [Value.oneCell']) (by omega) (by unfold maxLen; omega) (by omega) (by simp; omega) (W4.heap.size + 1) (by simp) ?_; intro gg cap' wa hown1 hgrow hat hlt'; obtain ⟨x1, x2, x3, x4⟩ := HL4.out.after y0 ((Below.refl W4.heap.size W4).alloc (Nat.le_refl _) _) hgrow; have HST2 := Lib.hid (HL4.out.step (p := (x, y)) y0 hown1 ((Below.refl W4.heap.size W4).alloc (Nat.le_refl _) _) hgrow); have HRR := Lib.hid (Rd.appended (v' := .slice (some ⟨gg, 0, none⟩) (qs.length + 1) cap') HL4.out HR4.out (by omega) (by omega) HCODE.out ((Below.refl W4.heap.size W4).alloc (Nat.le_refl _) _) hgrow); clear hown1 hgrow hat)
                go_roundw
                case rel => exact ⟨j + 1, by omega, by go_num, _, _, _, HST2.out, HRR.out, by have := HP'.out; omega, by simp; omega⟩
                case measure => simp [intOf]; omega
              · have g1 : ((qs.length : Int) == 0) = false := beq_eq_false_iff_ne.2 (by omega)
                obtain ⟨m, hm⟩ : ∃ m, qs.length = m + 1 := ⟨qs.length - 1, by omega⟩
                obtain ⟨b, off, rfl, _, r1, r2⟩ := HPT3.out m (by omega)
                obtain ⟨b', off', he, _, r3, r4⟩ := HPT3.out 0 (by omega)
                obtain ⟨rfl, rfl⟩ : b = b' ∧ off = off' := by simpa using he
                clear he
                simp only [Nat.zero_mul, Nat.add_zero] at r3 r4
                have g2 : IntKind.i64.wrap ((qs.length : Int) - 1) = (m : Int) := by rw [IntWalk.i64_in _ (by omega)]; omega
                have g3 : (m : Int) < (qs.length : Int) := by omega
                have g4 : 0 < qs.length := by omega
                have g5 : ¬ qs = [] := by rintro rfl; simp at g4
                clear hm hn
                cases hle : ptEq (px qs m, py qs m) (x, y)
                · cases hk3 : (k != 3)
                  · cases hfe : ptEq (px qs 0, py qs 0) (x, y)
                    · skip
                      go_wp2
                      go_quiet (fail)
                      have HL4 := Lib.hid (HL3.out.drewN nq)
                      have HR4 := Lib.hid (HR3.out.drewN nq)
                      have v1 : (W3.drewN nq).cell? ⟨w1.heap.size, 1, none⟩ = _ := e1
                      have v2 : (W3.drewN nq).frozen? ⟨w1.heap.size, 1, none⟩ = _ := e2
                      have v3 : (W3.drewN nq).cell? ⟨w2.heap.size, 0, none⟩ = _ := u0
                      have v4 : (W3.drewN nq).cell? ⟨w2.heap.size, 1, none⟩ = _ := u1
                      have v5 : W.heap.size ≤ (W3.drewN nq).heap.size := hsz3
                      generalize W3.drewN nq = W4 at *
                      have v6 : w2.heap.size < W4.heap.size := World.block_lt_of_cell? _ _ v3
                      have v7 : w1.heap.size < W4.heap.size := World.block_lt_of_cell? _ _ v1
                      clear e0 e1 e2 u0 u1 HL3 HR3
                      go_wp2_with (at_builtin; refine wpList_append_lies _ (by rfl) _ _ _ (by rfl) W.heap.size 74 i0 _ 2 16 Try.underlying24 HI.out HZ0.out HZ1.out HZ2.out rfl (by omega) _ qs.length (flat qs) (by rfl) (HL4.out.own.alloc _) ⟨W4.heap.size, 0, none⟩ 1 1 [.int .i64 x, .int .i64 y] (by rfl) (by rfl) (World.news_of_block (cs := #[.int .i64 x, .int .i64 y]) (t := 74) (fr := (0, 0)) (heap_alloc_new W4 _)) (by simp [Value.oneCell']) (by omega) (by unfold maxLen; omega) (by omega) (by simp; omega) (W4.heap.size + 1) (by simp) ?_; intro gg cap' wa hown1 hgrow hat hlt'; obtain ⟨x1, x2, x3, x4⟩ := HL4.out.after y0 ((Below.refl W4.heap.size W4).alloc (Nat.le_refl _) _) hgrow; have HST2 := Lib.hid (HL4.out.step (p := (x, y)) y0 hown1 ((Below.refl W4.heap.size W4).alloc (Nat.le_refl _) _) hgrow); have HRR := Lib.hid (Rd.appended (v' := .slice (some ⟨gg, 0, none⟩) (qs.length + 1) cap') HL4.out HR4.out (by omega) (by omega) HCODE.out ((Below.refl W4.heap.size W4).alloc (Nat.le_refl _) _) hgrow); clear hown1 hgrow hat)
                      go_roundw
                      case rel => exact ⟨j + 1, by omega, by go_num, _, _, _, HST2.out, HRR.out, by have := HP'.out; omega, by simp; omega⟩
                      case measure => simp [intOf]; omega
                    · skip
                      go_wp2
                      go_quiet (fail)
                      go_wp2
                      go_roundw
                      case rel => exact ⟨j + 1, by omega, by go_num, _, _, _, HL3.out.drewN _, HR3.out.drewN _, by have := HP'.out; omega, hq⟩
                      case measure => simp [intOf]; omega
                  · skip
                    go_wp2
                    go_quiet (fail)
                    have HL4 := Lib.hid (HL3.out.drewN nq)
                    have HR4 := Lib.hid (HR3.out.drewN nq)
                    have v1 : (W3.drewN nq).cell? ⟨w1.heap.size, 1, none⟩ = _ := e1
                    have v2 : (W3.drewN nq).frozen? ⟨w1.heap.size, 1, none⟩ = _ := e2
                    have v3 : (W3.drewN nq).cell? ⟨w2.heap.size, 0, none⟩ = _ := u0
                    have v4 : (W3.drewN nq).cell? ⟨w2.heap.size, 1, none⟩ = _ := u1
                    have v5 : W.heap.size ≤ (W3.drewN nq).heap.size := hsz3
                    generalize W3.drewN nq = W4 at *
                    have v6 : w2.heap.size < W4.heap.size := World.block_lt_of_cell? _ _ v3
                    have v7 : w1.heap.size < W4.heap.size := World.block_lt_of_cell? _ _ v1
                    clear e0 e1 e2 u0 u1 HL3 HR3
                    go_wp2_with (at_builtin; refine wpList_append_lies _ (by rfl) _ _ _ (by rfl) W.heap.size 74 i0 _ 2 16 Try.underlying24 HI.out HZ0.out HZ1.out HZ2.out rfl (by omega) _ qs.length (flat qs) (by rfl) (HL4.out.own.alloc _) ⟨W4.heap.size, 0, none⟩ 1 1 [.int .i64 x, .int .i64 y] (by rfl) (by rfl) (World.news_of_block (cs := #[.int .i64 x, .int .i64 y]) (t := 74) (fr := (0, 0)) (heap_alloc_new W4 _)) (by simp [Value.oneCell']) (by omega) (by unfold maxLen; omega) (by omega) (by simp; omega) (W4.heap.size + 1) (by simp) ?_; intro gg cap' wa hown1 hgrow hat hlt'; obtain ⟨x1, x2, x3, x4⟩ := HL4.out.after y0 ((Below.refl W4.heap.size W4).alloc (Nat.le_refl _) _) hgrow; have HST2 := Lib.hid (HL4.out.step (p := (x, y)) y0 hown1 ((Below.refl W4.heap.size W4).alloc (Nat.le_refl _) _) hgrow); have HRR := Lib.hid (Rd.appended (v' := .slice (some ⟨gg, 0, none⟩) (qs.length + 1) cap') HL4.out HR4.out (by omega) (by omega) HCODE.out ((Below.refl W4.heap.size W4).alloc (Nat.le_refl _) _) hgrow); clear hown1 hgrow hat)
                    go_roundw
                    case rel => exact ⟨j + 1, by omega, by go_num, _, _, _, HST2.out, HRR.out, by have := HP'.out; omega, by simp; omega⟩
                    case measure => simp [intOf]; omega
                · skip
                  go_wp2
                  go_quiet (fail)
                  go_wp2
                  go_roundw
                  case rel => exact ⟨j + 1, by omega, by go_num, _, _, _, HL3.out.drewN _, HR3.out.drewN _, by have := HP'.out; omega, hq⟩
                  case measure => simp [intOf]; omega
            · have b2 : decide ((qs.length : Int) < min want 6) = false := by simpa using hmin
              go_wp2
              go_quiet ((go_at_call 79; exact Calls.quiet_of_same (l1Min_any _ _ _)))
              go_wp2
              go_meet
              exact ⟨_, _, _, HL.out.drewN _, HR2.out.drewN _, by have := HP'.out; omega, hq⟩
          · have b1 : decide ((j : Int) < 12) = false := by simp; omega
            go_wp2
            go_quiet ((go_at_call 79; exact Calls.quiet_of_same (l1Min_any _ _ _)))
            go_wp2
            go_meet
            exact ⟨_, _, _, HL.out.drewN _, HR2.out.drewN _, by have := HP'.out; omega, hq⟩
      case rest =>
        clear HD
        obtain ⟨v, qs, p', hL, hr, hp', hq⟩ := hcut
        have hneR : w.heap.size ≠ R := by omega
        have t0 := hL.kept.cell T0.out (by omega) hneR
        have t1 := hL.kept.cell T1.out (by omega) hneR
        have t2 : wc.frozen? ⟨w.heap.size, 0, none⟩ = false := (hL.kept.frozen (b := w.heap.size) (o := 0) (World.block_lt_of_cell? _ _ T0.out) (by omega) hneR).trans T2.out
        have t3 : wc.frozen? ⟨w.heap.size, 1, none⟩ = false := (hL.kept.frozen (b := w.heap.size) (o := 1) (World.block_lt_of_cell? _ _ T0.out) (by omega) hneR).trans T3.out
        have G3 : Hid (w.grownBy wc (some R)) := kept_grown GW.out hL.kept (by omega)
        have HCAP : Hid (0 < qs.length → ∃ g cap2, v = .slice (some ⟨g, 0, none⟩) qs.length cap2 ∧ qs.length ≤ cap2 ∧ cap2 ≤ maxLen) := by
          intro h
          obtain ⟨_, ⟨_, h'⟩ | ⟨g, c3, cur, e, _, _, h1, h2, _⟩⟩ := hL.own
          · omega
          · exact ⟨g, c3, e, h1, h2⟩
        obtain ⟨a2, cap2, rfl, hpt, hso, hnew⟩ := owned_pts hL.own rfl
        have d0 := hL.kind
        have d1 := hL.pts
        have z5 : w.heap.size < wc.heap.size := World.block_lt_of_cell? _ _ t0
        have zc : w1.heap.size < wc.heap.size := World.block_lt_of_cell? _ _ d0
        have HR3 := Lib.hid hr
        have HPT := Lib.hid hpt
        have HOWN := Lib.hid hL.own
        have HNEW := Lib.hid hnew
        have hWw := GW.out.size
        clear hL hr hpt hso hnew
        go_wp2_with fail
        refine (specShapeOk_any _ _ _ _ _ HPT.out (by omega)).mono ?_
        rintro e w5 ⟨rfl, hb5⟩
        replace d0 := cell_later hb5 d0
        replace d1 := cell_later hb5 d1
        replace t0 := cell_later hb5 t0
        replace t1 := cell_later hb5 t1
        replace t2 := (hb5.frozen (p := ⟨w.heap.size, 0, none⟩) z5).trans t2
        replace t3 := (hb5.frozen (p := ⟨w.heap.size, 1, none⟩) z5).trans t3
        have z6 := hb5.size
        have G5 : Hid (w.grownBy w5 (some R)) := G3.out.trans (below_grown hb5)
        have HR5 : Hid (Rd w5 R a len cap p') := HR3.out.kept (r := none) (below_grown hb5) (by simp) (fun i hi => by obtain ⟨b, off, c, e, _⟩ := HR3.out.bytes i hi; rw [e]; simp [blk])
        have HOWN5 := Lib.hid (World.ownsRow.kept HOWN.out (below_grown (r := none) hb5) (by
          by_cases h : (Value.slice a2 qs.length cap2).ownBlock = none
          · exact .inl h
          · exact .inr h))
        clear hb5
        by_cases hok : shapeOk k qs = true
        · have hpos := ok_pos hok
          obtain ⟨g, c3, e3, hc1, hc2⟩ := HCAP.out hpos
          obtain ⟨rfl, rfl⟩ : a2 = some ⟨g, 0, none⟩ ∧ cap2 = c3 := by simpa using e3
          have hg := HNEW.out g rfl
          have HC1 := Lib.hid hc1
          have HC2 := Lib.hid hc2
          have HG := Lib.hid hg
          clear e3 hc1 hc2 hg
          go_wp2
          refine bodyPost_ret (v := .agg #[.int .i64 k, .slice (some ⟨g, 0, none⟩) qs.length cap2]) (by simp [results, Try.results56, go_sem, t0, t1]) rfl ?_
          have hge := HG.out
          have hne : (Value.slice (some ⟨g, 0, none⟩) qs.length cap2).ownBlock ≠ some w.heap.size := by simp [Value.ownBlock]; omega
          refine ⟨k, g, cap2, qs, p', rfl, owns_set (owns_set (owns_base HOWN5.out (by omega)) hne) hne, ⟨hpos, hq⟩, ⟨HC1.out, HC2.out⟩, ?_, by omega, grown_set_new (grown_set_new G5.out (Nat.le_refl _)) (Nat.le_refl _)⟩
          exact HR5.out.kept (r := some w.heap.size) (grown_set (grown_set (World.grownBy.refl _ _) _ _) _ _) (by simpa using hneR) (fun i hi e => by have := hcode.out i hi _ e; omega)
        · have hok' : shapeOk k qs = false := by simpa using hok
          clear hok
          go_wp2_with fail
          refine (l1Pt_any _ _ _ _ _ _ HR5.out (by omega) hl).mono ?_
          rintro e w6 ⟨x, y, rfl, _, _, hr6, hg6⟩
          have z7 : w.heap.size < w5.heap.size := World.block_lt_of_cell? _ _ t0
          have hneR' : some w.heap.size ≠ some R := by simpa using hneR
          replace t0 := (hg6.cell_far ⟨w.heap.size, 0, none⟩ z7 hneR').trans t0
          replace t1 := (hg6.cell_far ⟨w.heap.size, 1, none⟩ z7 hneR').trans t1
          replace t2 := (hg6.frozen_far ⟨w.heap.size, 0, none⟩ z7 hneR').trans t2
          replace t3 := (hg6.frozen_far ⟨w.heap.size, 1, none⟩ z7 hneR').trans t3
          have z8 : w.heap.size < w6.heap.size := World.block_lt_of_cell? _ _ t0
          have HR6 := Lib.hid hr6
          have G6 : Hid (w.grownBy w6 (some R)) := G5.out.trans hg6
          have n9 : ¬ w.heap.size = w6.heap.size := by omega
          clear hr6 hg6 d0 d1
          go_wp2
          have hsz : ((w6.setCell ⟨w.heap.size, 0, none⟩ (.int .i64 1)).setCell ⟨w.heap.size, 1, none⟩ (.slice (some ⟨w6.heap.size, 0, none⟩) 1 1)).heap.size = w6.heap.size := by simp [World.setCell]
          have q0 : (((w6.setCell ⟨w.heap.size, 0, none⟩ (.int .i64 1)).setCell ⟨w.heap.size, 1, none⟩ (.slice (some ⟨w6.heap.size, 0, none⟩) 1 1)).alloc (.cells #[.int .i64 x, .int .i64 y] 74)).cell? ⟨w.heap.size, 0, none⟩ = some (.int .i64 1) := by
            rw [World.cell?_of_block (w := ((w6.setCell ⟨w.heap.size, 0, none⟩ (.int .i64 1)).setCell ⟨w.heap.size, 1, none⟩ (.slice (some ⟨w6.heap.size, 0, none⟩) 1 1))) (Below.heap_alloc _ _ _ (by rw [hsz]; exact z8)), World.cell?_setCell_other _ _ _ _ (by simp)]
            exact World.cell?_setCell_same _ _ _ t0
          have q1 : (((w6.setCell ⟨w.heap.size, 0, none⟩ (.int .i64 1)).setCell ⟨w.heap.size, 1, none⟩ (.slice (some ⟨w6.heap.size, 0, none⟩) 1 1)).alloc (.cells #[.int .i64 x, .int .i64 y] 74)).cell? ⟨w.heap.size, 1, none⟩ = some (.slice (some ⟨w6.heap.size, 0, none⟩) 1 1) := by
            rw [World.cell?_of_block (w := ((w6.setCell ⟨w.heap.size, 0, none⟩ (.int .i64 1)).setCell ⟨w.heap.size, 1, none⟩ (.slice (some ⟨w6.heap.size, 0, none⟩) 1 1))) (Below.heap_alloc _ _ _ (by rw [hsz]; exact z8))]
            exact World.cell?_setCell_same _ _ _ ((World.cell?_setCell_other _ _ _ _ (by simp)).trans t1)
          refine bodyPost_ret (v := .agg #[.int .i64 1, .slice (some ⟨w6.heap.size, 0, none⟩) 1 1]) (by simp [results, Try.results56, go_sem, q0, q1]) rfl ?_
          have hk := HR6.out.kept (r := some w.heap.size) (grown_set (grown_set (World.grownBy.refl w6 (some w.heap.size)) 0 (.int .i64 1)) 1 (.slice (some ⟨w6.heap.size, 0, none⟩) 1 1)) (by simpa using hneR) (fun i hi e => by have := hcode.out i hi _ e; omega)
          refine ⟨1, w6.heap.size, 1, [(x, y)], p' + 2, rfl, ?_, ⟨by simp, by simp⟩, ⟨by simp, by unfold maxLen; omega⟩, hk.alloc _, by omega, grown_alloc (grown_set_new (grown_set_new G6.out (Nat.le_refl _)) (Nat.le_refl _)) _⟩
          refine ⟨rfl, .inr ⟨w6.heap.size, 1, #[.int .i64 x, .int .i64 y], rfl, by omega, ?_, Nat.le_refl _, by unfold maxLen; omega, rfl, rfl⟩⟩
          have := heap_alloc_new ((w6.setCell ⟨w.heap.size, 0, none⟩ (.int .i64 1)).setCell ⟨w.heap.size, 1, none⟩ (.slice (some ⟨w6.heap.size, 0, none⟩) 1 1)) (.cells #[.int .i64 x, .int .i64 y] 74)
          rw [hsz] at this
          exact this
end Go.Proofs.Ytelimcknhaflfaa

namespace Go.Proofs.Ytelimcknhaflfaa
set_option linter.unusedVariables false
open Go.ChangeShapes Go.WideShapes Go.ChangeAt Go.RowKit

/-- what drawing a bent shape leaves -/
def BentDrawn (w : World) (R : Nat) (a : Option Addr) (len cap : Nat) (p : Int) (e : Ending) (w' : World) : Prop :=
  ∃ (k : Int) (g c2 : Nat) (ps : List (Int × Int)) (p' : Int), e = .returned (.agg #[.int .i64 k, .slice (some ⟨g, 0, none⟩) ps.length c2]) ∧ PtsAt w' (some ⟨g, 0, none⟩) ps ∧ Soft w' (some ⟨g, 0, none⟩) ps.length ∧ (w.heap.size ≤ g ∧ g < w'.heap.size) ∧ ps.length ≤ 7 ∧ Rd w' R a len cap p' ∧ p' ≤ p + 50 ∧ w.grownBy w' (some R)

theorem bent_close {w wz : World} {R g c2 : Nat} {a : Option Addr} {len cap : Nat} {p p' k : Int} {ps : List (Int × Int)} {x0 x1 : Value} (hp : PtsAt wz (some ⟨g, 0, none⟩) ps) (hs : Soft wz (some ⟨g, 0, none⟩) ps.length) (hg : w.heap.size < g) (hg2 : g < wz.heap.size) (hl : ps.length ≤ 7) (hr : Rd wz R a len cap p') (hp' : p' ≤ p + 50) (hG : w.grownBy wz (some R)) (hR : R ≠ w.heap.size) (hcode : ∀ i, i < len → ∀ x, blk a = some x → x < w.heap.size) :
    BentDrawn w R a len cap p (.returned (.agg #[.int .i64 k, .slice (some ⟨g, 0, none⟩) ps.length c2])) ((wz.setCell ⟨w.heap.size, 0, none⟩ x0).setCell ⟨w.heap.size, 1, none⟩ x1) := by
  have hne : blk (some ⟨g, 0, none⟩) ≠ some w.heap.size := by simp [blk]; omega
  refine ⟨k, g, c2, ps, p', rfl, (hp.set hne).set hne, (hs.set _ _).set _ _, ⟨by omega, by simpa [World.setCell] using hg2⟩, hl, ?_, hp', grown_set_new (grown_set_new hG (Nat.le_refl _)) (Nat.le_refl _)⟩
  exact hr.kept (r := some w.heap.size) (grown_set (grown_set (World.grownBy.refl _ _) _ _) _ _) (by simpa using hR.symm) (fun i hi e => by have := hcode i hi _ e; omega)

theorem PtsAt.take {w : World} {a : Option Addr} {ps : List (Int × Int)} (h : PtsAt w a ps) (m : Nat) : PtsAt w a (ps.take m) := by
  intro i hi
  have hi' : i < m ∧ i < ps.length := by rw [List.length_take] at hi; omega
  obtain ⟨b, off, e, hlt, h1, h2⟩ := h i hi'.2
  have e1 : px (ps.take m) i = px ps i := by simp [px, hi'.1]
  have e2 : py (ps.take m) i = py ps i := by simp [py, hi'.1]
  rw [e1, e2]
  exact ⟨b, off, e, hlt, h1, h2⟩

theorem Soft.less {w : World} {a : Option Addr} {n m : Nat} (h : Soft w a n) (hm : m ≤ n) : Soft w a m := fun i hi => h i (by omega)

/-- one place of a row is written -/
theorem PtsAt.put {w : World} {g : Nat} {ps : List (Int × Int)} (h : PtsAt w (some ⟨g, 0, none⟩) ps) {m : Nat} (hm : m < ps.length) (x : Int) : PtsAt (w.setCell ⟨g, m * 2, none⟩ (.int .i64 x)) (some ⟨g, 0, none⟩) (ps.set m (x, py ps m)) := by
  intro i hi
  have hi' : i < ps.length := by simpa using hi
  obtain ⟨b, off, e, hlt, h1, h2⟩ := h i hi'
  obtain ⟨rfl, rfl⟩ : g = b ∧ 0 = off := by simpa using e
  simp only [Nat.zero_add] at h1 h2
  have far : ∀ (o o' : Nat) (v : Value), o ≠ o' → (w.setCell ⟨g, o, none⟩ v).cell? ⟨g, o', none⟩ = w.cell? ⟨g, o', none⟩ := fun o o' v hne => World.cell?_setCell_other w ⟨g, o, none⟩ ⟨g, o', none⟩ v (fun h => hne (congrArg Addr.off h))
  refine ⟨g, 0, rfl, by simpa [World.setCell] using hlt, ?_, ?_⟩
  · rw [Nat.zero_add]
    by_cases em : i = m
    · subst em
      have : px (ps.set i (x, py ps i)) i = x := by simp [px, hi']
      rw [this]
      exact World.cell?_setCell_same _ _ _ h1
    · have : px (ps.set m (x, py ps m)) i = px ps i := by simp [px, List.getElem?_set_ne (Ne.symm em)]
      rw [this, far _ _ _ (by omega)]
      exact h1
  · rw [Nat.zero_add]
    have : py (ps.set m (x, py ps m)) i = py ps i := by
      by_cases em : i = m
      · subst em; simp [py, hi']
      · simp [py, List.getElem?_set_ne (Ne.symm em)]
    rw [this, far _ _ _ (by omega)]
    exact h2

set_option maxRecDepth 100000 in
set_option maxHeartbeats 4000000 in
theorem l1Bent_any (R : Nat) (a : Option Addr) (len cap : Nat) (p : Int) (w : World) (h : Rd w R a len cap p) (hp : p ≤ 70000) (hl : len ≤ 2000) :
    Calls Try.prog 37 #[.pointer (some ⟨R, 0, none⟩)] w (BentDrawn w R a len cap p) := by
  have HR := Lib.hid h
  have hRlt := h.lt
  have hcode : Hid (∀ i, i < len → ∀ x, blk a = some x → x < w.heap.size) := fun i hi x hx => by
    obtain ⟨b, off, c, e, hlt, _⟩ := h.bytes i hi
    rw [e] at hx
    obtain rfl : b = x := by simpa [blk] using hx
    exact hlt
  clear h
  obtain ⟨i0, hi, hz0, hz1, hz2⟩ := info_parts infoPt
  have HI := Lib.hid hi
  have HZ0 := Lib.hid hz0
  have HZ1 := Lib.hid hz1
  have HZ2 := Lib.hid hz2
  clear hi hz0 hz1 hz2
  have hneR : some w.heap.size ≠ some R := by simp; omega
  have hRne : R ≠ w.heap.size := by omega
  go_enter Try.func37, Try.ntmps37
  go_wp2_with fail
  refine (l1Shape_any _ _ _ _ _ _ (HR.out.alloc _) (by omega) hl).mono ?_
  rintro e w1 ⟨k, g, c2, ps, p1, rfl, hown, ⟨hn0, hn6⟩, ⟨hc1, hc2⟩, hr, hp1, hg⟩
  have hgl := (hown.lt g rfl).1
  have hgu := (hown.lt g rfl).2
  simp only [World.size_alloc] at hgl
  have t0 : w1.cell? ⟨w.heap.size, 0, none⟩ = some (.int .i64 0) := (hg.cell_far _ (by simp) hneR).trans (by simp [go_sem])
  have t1 : w1.cell? ⟨w.heap.size, 1, none⟩ = some (.slice none 0 0) := (hg.cell_far _ (by simp) hneR).trans (by simp [go_sem])
  have t2 : w1.frozen? ⟨w.heap.size, 0, none⟩ = false := (hg.frozen_far _ (by simp) hneR).trans (by simp [go_sem])
  have t3 : w1.frozen? ⟨w.heap.size, 1, none⟩ = false := (hg.frozen_far _ (by simp) hneR).trans (by simp [go_sem])
  have G1 : Hid (w.grownBy w1 (some R)) := (World.grownBy_alloc w _ _).trans hg
  have z0 : w.heap.size < w1.heap.size := World.block_lt_of_cell? _ _ t0
  have hRs : R ≠ w1.heap.size := by omega
  have OWN1 := Lib.hid (owns_base (hown.alloc (.cells #[.int .i64 k, .slice (some ⟨g, 0, none⟩) ps.length c2] 26)) (base' := 0) (Nat.zero_le _))
  have HR1 := Lib.hid (hr.alloc (.cells #[.int .i64 k, .slice (some ⟨g, 0, none⟩) ps.length c2] 26))
  have ba : Below w1.heap.size w1 (w1.alloc (.cells #[.int .i64 k, .slice (some ⟨g, 0, none⟩) ps.length c2] 26)) := (Below.refl _ _).alloc (Nat.le_refl _) _
  replace t0 := cell_later ba t0
  replace t1 := cell_later ba t1
  replace t2 := (ba.frozen (p := ⟨w.heap.size, 0, none⟩) z0).trans t2
  replace t3 := (ba.frozen (p := ⟨w.heap.size, 1, none⟩) z0).trans t3
  obtain ⟨d0, d1, d2, d3⟩ := cell_two w1 (.int .i64 k) (.slice (some ⟨g, 0, none⟩) ps.length c2) 26
  have G2 : Hid (w.grownBy (w1.alloc (.cells #[.int .i64 k, .slice (some ⟨g, 0, none⟩) ps.length c2] 26)) (some R)) := grown_alloc G1.out _
  have HC1 := Lib.hid hc1
  have HC2 := Lib.hid hc2
  clear hown hr hg ba hc1 hc2
  go_upto_region 2 with (fail)
  generalize (w1.alloc (.cells #[.int .i64 k, .slice (some ⟨g, 0, none⟩) ps.length c2] 26)) = W at *
  have y0 : w1.heap.size < W.heap.size := World.block_lt_of_cell? _ _ d0
  go_wp2_with fail
  refine (pick_any _ _ _ _ _ _ _ HR1.out (by omega) hl (by omega) (by omega)).mono ?_
  rintro e w2 ⟨m, rfl, hm0, hm1, hr, hg, hs⟩
  obtain ⟨M, rfl⟩ : ∃ M : Nat, m = (M : Int) := ⟨m.toNat, by omega⟩
  have keep2 : ∀ {x o : Nat} {u : Value}, x ≠ R → W.cell? ⟨x, o, none⟩ = some u → w2.cell? ⟨x, o, none⟩ = some u := fun hne h => (hg.cell_far _ (World.block_lt_of_cell? _ _ h) (by simpa using hne)).trans h
  have keepf2 : ∀ {x o : Nat}, x < W.heap.size → x ≠ R → W.frozen? ⟨x, o, none⟩ = false → w2.frozen? ⟨x, o, none⟩ = false := fun hlt hne h => (hg.frozen_far ⟨_, _, none⟩ hlt (by simpa using hne)).trans h
  replace t0 := keep2 hRne.symm t0
  replace t1 := keep2 hRne.symm t1
  replace t2 := keepf2 (by omega) hRne.symm t2
  replace t3 := keepf2 (by omega) hRne.symm t3
  replace d0 := keep2 hRs.symm d0
  replace d1 := keep2 hRs.symm d1
  replace d2 := keepf2 (by omega) hRs.symm d2
  replace d3 := keepf2 (by omega) hRs.symm d3
  have OWN2 := Lib.hid (World.ownsRow.kept OWN1.out hg (.inr (by simp [Value.ownBlock]; omega)))
  have HR2 := Lib.hid hr
  have G3 : Hid (w.grownBy w2 (some R)) := G2.out.trans hg
  have y1 : W.heap.size ≤ w2.heap.size := hg.size
  clear hr hg hs keep2 keepf2 OWN1 HR1 G2
  go_wp2_with fail
  refine (pick_any _ _ _ _ _ _ _ HR2.out (by omega) hl (by omega) (by omega)).mono ?_
  rintro e w3 ⟨q, rfl, hq0, hq1, hr, hg, hs⟩
  have keep2 : ∀ {x o : Nat} {u : Value}, x ≠ R → w2.cell? ⟨x, o, none⟩ = some u → w3.cell? ⟨x, o, none⟩ = some u := fun hne h => (hg.cell_far _ (World.block_lt_of_cell? _ _ h) (by simpa using hne)).trans h
  have keepf2 : ∀ {x o : Nat}, x < w2.heap.size → x ≠ R → w2.frozen? ⟨x, o, none⟩ = false → w3.frozen? ⟨x, o, none⟩ = false := fun hlt hne h => (hg.frozen_far ⟨_, _, none⟩ hlt (by simpa using hne)).trans h
  replace t0 := keep2 hRne.symm t0
  replace t1 := keep2 hRne.symm t1
  replace t2 := keepf2 (by omega) hRne.symm t2
  replace t3 := keepf2 (by omega) hRne.symm t3
  replace d0 := keep2 hRs.symm d0
  replace d1 := keep2 hRs.symm d1
  replace d2 := keepf2 (by omega) hRs.symm d2
  replace d3 := keepf2 (by omega) hRs.symm d3
  have OWN3 := Lib.hid (World.ownsRow.kept OWN2.out hg (.inr (by simp [Value.ownBlock]; omega)))
  have HR3 := Lib.hid hr
  have G4 : Hid (w.grownBy w3 (some R)) := G3.out.trans hg
  have y2 : w1.heap.size < w3.heap.size := World.block_lt_of_cell? _ _ d0
  have y3 : w.heap.size < w3.heap.size := World.block_lt_of_cell? _ _ t0
  have y4 : R < w3.heap.size := by omega
  clear hr hg hs keep2 keepf2 OWN2 HR2 G3 G1 y1 y0 W w2
  have x1 : ¬ w.heap.size = w1.heap.size := by omega
  have x2 : ¬ w1.heap.size = w.heap.size := by omega
  have PTS3 : Hid (PtsAt w3 (some ⟨g, 0, none⟩) ps ∧ Soft w3 (some ⟨g, 0, none⟩) ps.length) := by
    obtain ⟨a3, cap3, e3, h3, h4, h5⟩ := owned_pts OWN3.out rfl
    obtain ⟨rfl, rfl⟩ : some ⟨g, 0, none⟩ = a3 ∧ c2 = cap3 := by simpa using e3
    exact ⟨h3, h4⟩
  have hg3 : g < w3.heap.size := by omega
  have hgR : g ≠ R := by omega
  have hgS : g ≠ w1.heap.size := by omega
  have hbS : blk (some ⟨g, 0, none⟩) ≠ some w1.heap.size := by simp [blk]; omega
  by_cases q0 : q = 0
  · subst q0
    go_wp2_with fail
    refine (num_any _ _ 5 _ _ _ _ 0 4 _ (HR3.out.alloc _) (by omega) hl (fun i hi => ?_) (by omega) (by omega) (by omega)).mono ?_
    · have : i = 0 ∨ i = 1 ∨ i = 2 ∨ i = 3 ∨ i = 4 := by omega
      rcases this with rfl | rfl | rfl | rfl | rfl
      · exact ⟨0, by simp [go_sem], by omega, by omega⟩
      · exact ⟨4, by simp [go_sem], by omega, by omega⟩
      · exact ⟨1, by simp [go_sem], by omega, by omega⟩
      · exact ⟨2, by simp [go_sem], by omega, by omega⟩
      · exact ⟨3, by simp [go_sem], by omega, by omega⟩
    rintro e w4 ⟨x, rfl, hx0, hx1, hr, hg, hs⟩
    have hg' : w3.grownBy w4 (some R) := (World.grownBy_alloc w3 _ _).trans hg
    have keep2 : ∀ {x o : Nat} {u : Value}, x ≠ R → w3.cell? ⟨x, o, none⟩ = some u → w4.cell? ⟨x, o, none⟩ = some u := fun hne h => (hg'.cell_far _ (World.block_lt_of_cell? _ _ h) (by simpa using hne)).trans h
    have keepf2 : ∀ {x o : Nat}, x < w3.heap.size → x ≠ R → w3.frozen? ⟨x, o, none⟩ = false → w4.frozen? ⟨x, o, none⟩ = false := fun hlt hne h => (hg'.frozen_far ⟨_, _, none⟩ hlt (by simpa using hne)).trans h
    replace t0 := keep2 hRne.symm t0
    replace t1 := keep2 hRne.symm t1
    replace t2 := keepf2 y3 hRne.symm t2
    replace t3 := keepf2 y3 hRne.symm t3
    replace d0 := keep2 hRs.symm d0
    replace d1 := keep2 hRs.symm d1
    replace d2 := keepf2 y2 hRs.symm d2
    have PTS4 : Hid (PtsAt w4 (some ⟨g, 0, none⟩) ps) := PTS3.out.1.grown hg' (.inr (by simp [blk]; omega))
    have SOFT4 : Hid (Soft w4 (some ⟨g, 0, none⟩) ps.length) := fun i hi b off e => by
      obtain ⟨rfl, rfl⟩ : g = b ∧ 0 = off := by simpa using e
      have := PTS3.out.2 i hi g 0 rfl
      exact ⟨keepf2 hg3 hgR this.1, keepf2 hg3 hgR this.2⟩
    have HR4 := Lib.hid hr
    have G5 : Hid (w.grownBy w4 (some R)) := G4.out.trans hg'
    have y5 : g < w4.heap.size := Nat.lt_of_lt_of_le hg3 hg'.size
    clear hr hg hg' hs keep2 keepf2
    go_wp2
    refine bodyPost_ret (v := .agg #[.int .i64 x, .slice (some ⟨g, 0, none⟩) ps.length c2]) (by simp [results, Try.results37, go_sem, t0, t1]) rfl ?_
    refine bent_close (p' := p1 + 1 + 1 + 1) (PTS4.out.set hbS) (SOFT4.out.set _ _) (by omega) (by simpa [World.setCell] using y5) (by omega) ?_ (by omega) (grown_set_new (c := w1.heap.size) G5.out (by omega)) hRne hcode.out
    exact HR4.out.kept (r := some w1.heap.size) (grown_set (World.grownBy.refl _ _) _ _) (by simp; omega) (fun i hi e => by have := hcode.out i hi _ e; omega)
  · have b0 : (q == 0) = false := beq_eq_false_iff_ne.2 q0
    by_cases q1 : q = 1
    · subst q1
      clear q0 b0
      have hMl : (M : Int) < (ps.length : Int) := by omega
      obtain ⟨b, off, e, _, r1, r2⟩ := PTS3.out.1 M (by omega)
      obtain ⟨rfl, rfl⟩ : g = b ∧ 0 = off := by simpa using e
      obtain ⟨s1, s2⟩ := PTS3.out.2 M (by omega) g 0 rfl
      simp only [Nat.zero_add] at r1 s1
      clear e r2 s2
      go_upto_region 7 with (fail)
      go_region_held3 (fun w' => w'.cell? ⟨w1.heap.size, 1, none⟩ = some (.slice (some ⟨g, 0, none⟩) ps.length c2))
        (first
          | exact d1
          | (simp [go_sem, d1, y2]; done)
          | exact (hg'.cell_far ⟨w1.heap.size, 1, none⟩ y2 (by simp; omega)).trans d1
          | (simp [go_sem, hdn]; done))
        (first
          | (go_at_call 60
             refine (num_any R w3.heap.size 3 a len cap (p1 + 1 + 1) (-1001) 1001 _ ?_ (by omega) hl ?_ (by omega) (by omega) (by omega)).mono ?_
             · (exact (HR3.out.alloc _).drew)
             · (intro i hi
                have : i = 0 ∨ i = 1 ∨ i = 2 := by omega
                rcases this with rfl | rfl | rfl
                · exact ⟨1000, by simp [go_sem], by omega, by omega⟩
                · exact ⟨1001, by simp [go_sem], by omega, by omega⟩
                · exact ⟨-1001, by simp [go_sem], by omega, by omega⟩)
             rintro e wn ⟨x, rfl, hx0, hx1, hr, hg, hs⟩
             have hg' : w3.grownBy wn (some R) := (World.grownBy_alloc w3 (.cells #[.int .i64 1000, .int .i64 1001, .int .i64 (-1001)] 3) (some R)).trans ⟨hg.os, hg.tape, hg.output, hg.size, hg.block⟩
             have u1 : wn.cell? ⟨g, M * 2, none⟩ = some (.int .i64 (px ps M)) := (hg'.cell_far ⟨g, M * 2, none⟩ hg3 (by simp; omega)).trans r1
             have u2 : wn.frozen? ⟨g, M * 2, none⟩ = false := (hg'.frozen_far ⟨g, M * 2, none⟩ hg3 (by simp; omega)).trans s1
             have hdn : wn.cell? ⟨w1.heap.size, 1, none⟩ = some (.slice (some ⟨g, 0, none⟩) ps.length c2) := (hg'.cell_far ⟨w1.heap.size, 1, none⟩ y2 (by simp; omega)).trans d1))
      all_goals
        have k0 : wn.cell? ⟨w1.heap.size, 0, none⟩ = some (.int .i64 k) := (hg'.cell_far ⟨w1.heap.size, 0, none⟩ y2 (by simp; omega)).trans d0
        have l0 : wn.cell? ⟨w.heap.size, 0, none⟩ = some (.int .i64 0) := (hg'.cell_far ⟨w.heap.size, 0, none⟩ y3 hneR).trans t0
        have l1 : wn.cell? ⟨w.heap.size, 1, none⟩ = some (.slice none 0 0) := (hg'.cell_far ⟨w.heap.size, 1, none⟩ y3 hneR).trans t1
        have l2 : wn.frozen? ⟨w.heap.size, 0, none⟩ = false := (hg'.frozen_far ⟨w.heap.size, 0, none⟩ y3 hneR).trans t2
        have l3 : wn.frozen? ⟨w.heap.size, 1, none⟩ = false := (hg'.frozen_far ⟨w.heap.size, 1, none⟩ y3 hneR).trans t3
        have PTS4 : Hid (PtsAt wn (some ⟨g, 0, none⟩) ps) := PTS3.out.1.grown hg' (.inr (by simp [blk]; omega))
        have SOFT4 : Hid (Soft wn (some ⟨g, 0, none⟩) ps.length) := fun i hi b off e => by
          obtain ⟨rfl, rfl⟩ : g = b ∧ 0 = off := by simpa using e
          have := PTS3.out.2 i hi g 0 rfl
          exact ⟨(hg'.frozen_far ⟨g, _, none⟩ hg3 (by simp; omega)).trans this.1, (hg'.frozen_far ⟨g, _, none⟩ hg3 (by simp; omega)).trans this.2⟩
        have HR4 := Lib.hid hr
        have G5 : Hid (w.grownBy wn (some R)) := G4.out.trans hg'
        have y5 : g < wn.heap.size := Nat.lt_of_lt_of_le hg3 hg'.size
        have n1 : ¬ g = w.heap.size := by omega
        have n2 : ¬ w.heap.size = g := by omega
        have n3 : ¬ g = w1.heap.size := by omega
        have n4 : ¬ w1.heap.size = g := by omega
        clear hr hg hg' hs t0 t1 t2 t3 d0 d1 d2 d3
        go_wp2
        refine bodyPost_ret (v := .agg #[.int .i64 k, .slice (some ⟨g, 0, none⟩) ps.length c2]) (by simp [results, Try.results37, go_sem, l0, l1]) rfl ?_
        have hfin := bent_close (c2 := c2) (k := k) (x0 := .int .i64 k) (x1 := .slice (some ⟨g, 0, none⟩) ps.length c2) (PTS4.out.put (m := M) (by omega) x) (by simpa using SOFT4.out.set ⟨g, M * 2, none⟩ (.int .i64 x)) (by omega) (by simpa [World.setCell] using y5) (by simp; omega) (HR4.out.kept (r := some g) (grown_set (World.grownBy.refl _ _) _ _) (by simp; omega) (fun i hi e => by have := hcode.out i hi _ e; omega)) (show p1 + 1 + 1 + 1 ≤ p + 50 by omega) (grown_set_new (c := g) G5.out (by omega)) hRne hcode.out
        simpa using hfin
    · have b1 : (q == 1) = false := beq_eq_false_iff_ne.2 q1
      by_cases q2 : q = 2
      · subst q2
        clear q0 q1
        obtain ⟨L, hL⟩ : ∃ L, ps.length = L + 1 := ⟨ps.length - 1, by omega⟩
        obtain ⟨b, off, e, _, r1, r2⟩ := PTS3.out.1 L (by omega)
        obtain ⟨rfl, rfl⟩ : g = b ∧ 0 = off := by simpa using e
        simp only [Nat.zero_add] at r1 r2
        have j1 : IntKind.i64.wrap ((ps.length : Int) - 1) = (L : Int) := by rw [IntWalk.i64_in _ (by omega)]; omega
        have j2 : (L : Int) < (ps.length : Int) := by omega
        have HL := Lib.hid hL
        clear e hL
        have n1 : ¬ g = w.heap.size := by omega
        have n2 : ¬ w.heap.size = g := by omega
        have hOb : (Value.slice (some ⟨g, 0, none⟩) ps.length c2).ownBlock = some g := rfl
        go_upto_region 9 with (fail)
        go_region_law (refine step_append_lies _ (by rfl) _ _ _ (by rfl) 0 74 i0 _ 2 16 Try.underlying24 HI.out HZ0.out HZ1.out HZ2.out rfl (by omega) (.slice (some ⟨g, 0, none⟩) ps.length c2) ps.length (flat ps) (by rfl) ((OWN3.out.alloc _).drew) ⟨w3.heap.size, 0, none⟩ 1 1 [.int .i64 (px ps L), .int .i64 (py ps L)] (by rfl) (by rfl) (World.news_of_block (cs := #[.int .i64 (px ps L), .int .i64 (py ps L)]) (t := 74) (fr := (0, 0)) (heap_alloc_new w3 _)) (by simp [Value.oneCell']) (by omega) (by unfold maxLen; omega) (by omega) (by simp) (w3.heap.size + 1) (by simp) ?_; intro gg cap' wa hown1 hgrow hat hlt'; rw [hOb] at hgrow hat; have hg' : w3.grownBy wa (some g) := (World.grownBy_alloc w3 (.cells #[.int .i64 (px ps L), .int .i64 (py ps L)] 74) (some g)).trans ⟨hgrow.os, hgrow.tape, hgrow.output, hgrow.size, hgrow.block⟩; have k0 := (hg'.cell_far ⟨w1.heap.size, 0, none⟩ y2 (by simp; omega)).trans d0; have k1 := (hg'.cell_far ⟨w1.heap.size, 1, none⟩ y2 (by simp; omega)).trans d1; have k2 := (hg'.frozen_far ⟨w1.heap.size, 1, none⟩ y2 (by simp; omega)).trans d3)
        all_goals
          have l0 : wa.cell? ⟨w.heap.size, 0, none⟩ = some (.int .i64 0) := (hg'.cell_far ⟨w.heap.size, 0, none⟩ y3 (by simp; omega)).trans t0
          have l1 : wa.cell? ⟨w.heap.size, 1, none⟩ = some (.slice none 0 0) := (hg'.cell_far ⟨w.heap.size, 1, none⟩ y3 (by simp; omega)).trans t1
          have l2 : wa.frozen? ⟨w.heap.size, 0, none⟩ = false := (hg'.frozen_far ⟨w.heap.size, 0, none⟩ y3 (by simp; omega)).trans t2
          have l3 : wa.frozen? ⟨w.heap.size, 1, none⟩ = false := (hg'.frozen_far ⟨w.heap.size, 1, none⟩ y3 (by simp; omega)).trans t3
          have HOW : Hid (wa.ownsRow 0 74 2 (.slice (some ⟨gg, 0, none⟩) (ps.length + 1) cap') (ps.length + 1) (flat (ps ++ [(px ps L, py ps L)]))) := by rw [flat_snoc]; exact hown1
          have HR4 : Hid (Rd wa R a len cap (p1 + 1 + 1)) := HR3.out.kept hg' (by simp; omega) (fun i hi e => by have := hcode.out i hi _ e; omega)
          have G5 : Hid (w.grownBy wa (some R)) := G4.out.andThen hg' (fun j e => .inl (by simp at e; omega))
          have hgg : w.heap.size < gg := by rcases hat with h | h; (simp at h; omega); omega
          have hggS : gg ≠ w1.heap.size := by rcases hat with h | h; (simp at h; omega); omega
          have x5 : (w1.heap.size : Nat) < wa.heap.size := World.block_lt_of_cell? _ _ k0
          clear hown1 hgrow hat hg' t0 t1 t2 t3 d0 d1 d2 d3 hOb
          go_wp2
          refine bodyPost_ret (v := .agg #[.int .i64 k, .slice (some ⟨gg, 0, none⟩) (ps.length + 1) cap']) (by simp [results, Try.results37, go_sem, l0, l1]) rfl ?_
          obtain ⟨a3, cap3, e3, h3, h4, h5⟩ := owned_pts HOW.out (by simp)
          have hlen : (ps ++ [(px ps L, py ps L)]).length = ps.length + 1 := by simp
          rw [hlen] at e3
          obtain ⟨rfl, rfl⟩ : some ⟨gg, 0, none⟩ = a3 ∧ cap' = cap3 := by simpa using e3
          have hbS2 : blk (some ⟨gg, 0, none⟩) ≠ some w1.heap.size := by simpa [blk] using hggS
          have hfin := bent_close (c2 := cap') (k := k) (x0 := .int .i64 k) (x1 := .slice (some ⟨gg, 0, none⟩) (ps.length + 1) cap') (h3.set (c := w1.heap.size) (o := 1) (v := .slice (some ⟨gg, 0, none⟩) (ps.length + 1) cap') hbS2) (h4.set _ _) hgg (by simpa [World.setCell] using hlt') (by rw [hlen]; omega) (HR4.out.kept (r := some w1.heap.size) (grown_set (World.grownBy.refl _ _) _ _) (by simp; omega) (fun i hi e => by have := hcode.out i hi _ e; omega)) (show p1 + 1 + 1 ≤ p + 50 by omega) (grown_set_new (c := w1.heap.size) G5.out (by omega)) hRne hcode.out
          rw [hlen] at hfin
          exact hfin
      · have b2 : (q == 2) = false := beq_eq_false_iff_ne.2 q2
        by_cases q3 : q = 3
        · subst q3
          clear q0 q1 q2
          have hMc : M ≤ c2 := by have := HC1.out; omega
          have hMc' : (M : Int) ≤ (c2 : Int) := by omega
          go_wp2
          refine bodyPost_ret (v := .agg #[.int .i64 k, .slice (some ⟨g, 0, none⟩) M c2]) (by simp [results, Try.results37, go_sem, t0, t1]) rfl ?_
          have hlen : (ps.take M).length = M := by rw [List.length_take]; omega
          have hfin := bent_close (c2 := c2) (k := k) (x0 := .int .i64 k) (x1 := .slice (some ⟨g, 0, none⟩) M c2) ((PTS3.out.1.take M).set (c := w1.heap.size) (o := 1) (v := .slice (some ⟨g, 0, none⟩) M c2) hbS) ((PTS3.out.2.less (m := (ps.take M).length) (by omega)).set _ _) (by omega) (by simpa [World.setCell] using hg3) (by omega) (HR3.out.kept (r := some w1.heap.size) (grown_set (World.grownBy.refl _ _) _ _) (by simp; omega) (fun i hi e => by have := hcode.out i hi _ e; omega)) (show p1 + 1 + 1 ≤ p + 50 by omega) (grown_set_new (c := w1.heap.size) G4.out (by omega)) hRne hcode.out
          rw [hlen] at hfin
          exact hfin
        · have b3 : (q == 3) = false := beq_eq_false_iff_ne.2 q3
          clear q0 q1 q2 q3
          go_wp2
          refine bodyPost_ret (v := .agg #[.int .i64 k, .slice (some ⟨g, 0, none⟩) ps.length c2]) (by simp [results, Try.results37, go_sem, t0, t1]) rfl ?_
          exact bent_close PTS3.out.1 PTS3.out.2 (by omega) hg3 (by omega) HR3.out (by omega) G4.out hRne hcode.out
end Go.Proofs.Ytelimcknhaflfaa

namespace Go.Proofs.Ytelimcknhaflfaa
set_option linter.unusedVariables false
open Go.ChangeShapes Go.WideShapes Go.ChangeAt Go.RowKit Go.Deep

theorem putS_len' (t : Tg) (us : List Tg) : (putS us t).length ≤ us.length + 1 := by
  induction us with
  | nil => simp [putS]
  | cons u us ih =>
    unfold putS
    split
    · have := List.length_filter_le (fun s => decide (kl s ≠ kl t)) (u :: us)
      rw [List.length_cons]
      omega
    · simp only [List.length_cons]
      omega

theorem putS_lens {ts : List Tg} {key val : ByteArray} {m : Int} (hl : TagsLen ts m) (hk : (key.size : Int) ≤ m) (hv : (val.size : Int) ≤ m) : TagsLen (putS ts (key, val)) m := by
  intro i hi
  have hm := List.getElem_mem hi
  rcases (mem_putS _ _ _).1 hm with e | ⟨h, _⟩
  · simp [tk, tv, hi, e]
    exact ⟨hk, hv⟩
  · obtain ⟨j, hj, e⟩ := List.getElem_of_mem h
    have := hl j hj
    simp [tk, tv, hi, hj] at this ⊢
    rw [← e]
    exact this

theorem PtsAt.kept {w w' : World} {r : Option Nat} {a : Option Addr} {ps : List (Int × Int)} (h : PtsAt w a ps) (hg : w.grownBy w' r) (hn : ∀ x, blk a = some x → r ≠ some x) : PtsAt w' a ps := by
  intro i hi
  obtain ⟨b, off, rfl, hlt, h1, h2⟩ := h i hi
  have hne : some b ≠ r := fun e => hn b rfl e.symm
  exact ⟨b, off, rfl, Nat.lt_of_lt_of_le hlt hg.size, (hg.cell_far ⟨b, _, none⟩ hlt hne).trans h1, (hg.cell_far ⟨b, _, none⟩ hlt hne).trans h2⟩

theorem grown_low {w w' : World} (r : Option Nat) (h : Below w.heap.size w w') : w.grownBy w' r := ⟨h.os, h.tape, h.output, h.size, fun k hk _ => h.block k hk⟩

theorem tags_of_own {w : World} {base : Nat} {e : TypeId} {ta : Option Addr} {tc : Nat} {ts : List Tg} (h : w.ownsRow base e 2 (.slice ta ts.length tc) ts.length (flatT ts)) : TagsAt w ta ts := by
  obtain ⟨a', c', e', h', _⟩ := owned_tags h rfl
  obtain ⟨rfl, rfl⟩ : ta = a' ∧ tc = c' := by simpa using e'
  exact h'

/-- what drawing a thing leaves -/
def FeatDrawn (w : World) (R : Nat) (a : Option Addr) (len cap : Nat) (p : Int) (m1 m2 : Nat) (q : Int) (e : Ending) (w' : World) : Prop :=
  ∃ (id : ByteArray) (k : Int) (pa : Option Addr) (pc : Nat) (ps : List (Int × Int)) (ta : Option Addr) (tc : Nat) (ts : List Tg) (p' : Int), e = .returned (.agg #[.string id, .int .i64 k, .slice pa ps.length pc, .slice ta ts.length tc]) ∧ id.size ≤ 8 ∧
    PtsAt w' pa ps ∧ (∀ x, blk pa = some x → w.heap.size ≤ x ∧ x < w'.heap.size) ∧ ps.length ≤ m1 ∧ w'.ownsRow w.heap.size 81 2 (.slice ta ts.length tc) ts.length (flatT ts) ∧ ts.length ≤ m2 ∧ TagsLen ts 8 ∧ Rd w' R a len cap p' ∧ p' ≤ p + q ∧ w.grownBy w' (some R) ∧ (∀ x, blk pa = some x → (Value.slice ta ts.length tc).ownBlock ≠ some x)

/-- a thing that is being drawn: its box, what it answers into, its points and tags, the reader -/
structure FeatLay (w : World) (R : Nat) (a : Option Addr) (len cap : Nat) (d : Nat) (id : ByteArray) (k : Int) (g c2 : Nat) (ps : List (Int × Int)) (v : Value) (ts : List Tg) (q : Int) (wr : World) : Prop where
  c0 : wr.cell? ⟨d, 0, none⟩ = some (.string id)
  c1 : wr.cell? ⟨d, 1, none⟩ = some (.int .i64 k)
  c2 : wr.cell? ⟨d, 2, none⟩ = some (.slice (some ⟨g, 0, none⟩) ps.length c2)
  c3 : wr.cell? ⟨d, 3, none⟩ = some v
  soft : ∀ i, wr.frozen? ⟨d, i, none⟩ = false
  r0 : wr.cell? ⟨w.heap.size, 0, none⟩ = some (.string ⟨#[]⟩)
  r1 : wr.cell? ⟨w.heap.size, 1, none⟩ = some (.int .i64 0)
  r2 : wr.cell? ⟨w.heap.size, 2, none⟩ = some (.slice none 0 0)
  r3 : wr.cell? ⟨w.heap.size, 3, none⟩ = some (.slice none 0 0)
  rs : ∀ i, wr.frozen? ⟨w.heap.size, i, none⟩ = false
  own : wr.ownsRow (d + 1) 81 2 v ts.length (flatT ts)
  pts : PtsAt wr (some ⟨g, 0, none⟩) ps
  rd : Rd wr R a len cap q
  grown : w.grownBy wr (some R)

/-- the reader goes on, or memory is made -/
theorem FeatLay.read {w wr w' : World} {R : Nat} {a : Option Addr} {len cap d : Nat} {id : ByteArray} {k : Int} {g c2 : Nat} {ps : List (Int × Int)} {v : Value} {ts : List Tg} {q q' : Int} (h : FeatLay w R a len cap d id k g c2 ps v ts q wr) (hg : wr.grownBy w' (some R)) (hr : Rd w' R a len cap q') (hRw : R < w.heap.size) (hd : w.heap.size < d) (hgd : R ≠ g) : FeatLay w R a len cap d id k g c2 ps v ts q' w' := by
  have hdl : d < wr.heap.size := World.block_lt_of_cell? _ _ h.c0
  have hwl : w.heap.size < wr.heap.size := World.block_lt_of_cell? _ _ h.r0
  have nd : some d ≠ some R := by simp; omega
  have nw : some w.heap.size ≠ some R := by simp; omega
  refine ⟨(hg.cell_far _ hdl nd).trans h.c0, (hg.cell_far _ hdl nd).trans h.c1, (hg.cell_far _ hdl nd).trans h.c2, (hg.cell_far _ hdl nd).trans h.c3, fun i => (hg.frozen_far _ hdl nd).trans (h.soft i), (hg.cell_far _ hwl nw).trans h.r0, (hg.cell_far _ hwl nw).trans h.r1, (hg.cell_far _ hwl nw).trans h.r2, (hg.cell_far _ hwl nw).trans h.r3, fun i => (hg.frozen_far _ hwl nw).trans (h.rs i), World.ownsRow.kept h.own hg (.inr fun e => by have := (h.own.lt R e).1; omega), h.pts.kept hg (fun x hx e => by simp [blk] at hx e; omega), hr, h.grown.trans hg⟩

theorem FeatLay.lay {w wr w' : World} {R : Nat} {a : Option Addr} {len cap d : Nat} {id : ByteArray} {k : Int} {g c2 : Nat} {ps : List (Int × Int)} {v : Value} {ts : List Tg} {q : Int} (h : FeatLay w R a len cap d id k g c2 ps v ts q wr) (hb : Below wr.heap.size wr w') (hRw : R < w.heap.size) (hd : w.heap.size < d) (hgd : R ≠ g) : FeatLay w R a len cap d id k g c2 ps v ts q w' :=
  h.read (grown_low _ hb) (h.rd.kept (r := none) (grown_low _ hb) (by simp) (fun i hi => by obtain ⟨b, off, c, e, _⟩ := h.rd.bytes i hi; rw [e]; simp [blk])) hRw hd hgd

/-- other tags are put into the box -/
theorem FeatLay.put {w wr : World} {R : Nat} {a : Option Addr} {len cap d : Nat} {id : ByteArray} {k : Int} {g c2 : Nat} {ps : List (Int × Int)} {v v' : Value} {ts us : List Tg} {q : Int} (h : FeatLay w R a len cap d id k g c2 ps v ts q wr) (ho : wr.ownsRow (d + 1) 81 2 v' us.length (flatT us)) (hRw : R < w.heap.size) (hd : w.heap.size < d) (hgd : g ≠ d) (hcd : ∀ i, i < len → blk a ≠ some d) : FeatLay w R a len cap d id k g c2 ps v' us q (wr.setCell ⟨d, 3, none⟩ v') := by
  have hg : wr.grownBy (wr.setCell ⟨d, 3, none⟩ v') (some d) := grown_set (World.grownBy.refl _ _) _ _
  refine ⟨(World.cell?_setCell_other _ _ _ _ (by simp)).trans h.c0, (World.cell?_setCell_other _ _ _ _ (by simp)).trans h.c1, (World.cell?_setCell_other _ _ _ _ (by simp)).trans h.c2, World.cell?_setCell_same _ _ _ h.c3, fun i => by rw [World.frozen?_setCell]; exact h.soft i, (World.cell?_setCell_other _ _ _ _ (by simp <;> omega)).trans h.r0, (World.cell?_setCell_other _ _ _ _ (by simp <;> omega)).trans h.r1, (World.cell?_setCell_other _ _ _ _ (by simp <;> omega)).trans h.r2, (World.cell?_setCell_other _ _ _ _ (by simp <;> omega)).trans h.r3, fun i => by rw [World.frozen?_setCell]; exact h.rs i, World.ownsRow.kept ho hg (.inr fun e => by have := (ho.lt d e).1; omega), h.pts.kept hg (fun x hx e => by simp [blk] at hx e; omega), h.rd.kept hg (by simp; omega) hcd, grown_set_new h.grown (by omega)⟩

/-- what is answered -/
theorem FeatLay.fin {w wr : World} {R : Nat} {a : Option Addr} {len cap d : Nat} {id : ByteArray} {k : Int} {g c2 : Nat} {ps : List (Int × Int)} {ta : Option Addr} {tc : Nat} {ts : List Tg} {p q : Int} {x0 x1 x2 x3 : Value} (h : FeatLay w R a len cap d id k g c2 ps (.slice ta ts.length tc) ts q wr) (hid : id.size ≤ 8) (hps : ps.length ≤ 6) (hts : ts.length ≤ 3) (htl : TagsLen ts 8) (hq : q ≤ p + 60) (hRw : R < w.heap.size) (hd : w.heap.size < d) (hgw : w.heap.size < g ∧ g < d) (hcd : ∀ i, i < len → blk a ≠ some w.heap.size) :
    FeatDrawn w R a len cap p 6 3 60 (.returned (.agg #[.string id, .int .i64 k, .slice (some ⟨g, 0, none⟩) ps.length c2, .slice ta ts.length tc])) ((((wr.setCell ⟨w.heap.size, 0, none⟩ x0).setCell ⟨w.heap.size, 1, none⟩ x1).setCell ⟨w.heap.size, 2, none⟩ x2).setCell ⟨w.heap.size, 3, none⟩ x3) := by
  have hg : wr.grownBy ((((wr.setCell ⟨w.heap.size, 0, none⟩ x0).setCell ⟨w.heap.size, 1, none⟩ x1).setCell ⟨w.heap.size, 2, none⟩ x2).setCell ⟨w.heap.size, 3, none⟩ x3) (some w.heap.size) := grown_set (grown_set (grown_set (grown_set (World.grownBy.refl _ _) _ _) _ _) _ _) _ _
  have hdl : d < wr.heap.size := World.block_lt_of_cell? _ _ h.c0
  refine ⟨id, k, _, _, ps, ta, tc, ts, q, rfl, hid, h.pts.kept hg (fun x hx e => by simp [blk] at hx e; omega), fun x hx => ?_, hps, owns_base (World.ownsRow.kept h.own hg (.inr fun e => by have := (h.own.lt _ e).1; omega)) (by omega), hts, htl, h.rd.kept hg (by simp; omega) hcd, hq, grown_set_new (grown_set_new (grown_set_new (grown_set_new h.grown (Nat.le_refl _)) (Nat.le_refl _)) (Nat.le_refl _)) (Nat.le_refl _), fun x hx e => by have := (h.own.lt x e).1; simp [blk] at hx; omega⟩
  have := hg.size
  simp [blk] at hx
  omega

set_option maxRecDepth 100000 in
set_option maxHeartbeats 8000000 in
theorem l2Feat_any (R : Nat) (a : Option Addr) (len cap : Nat) (p : Int) (id : ByteArray) (w : World) (h : Rd w R a len cap p) (hp : p ≤ 70000) (hl : len ≤ 2000) (hid : id.size ≤ 8) :
    Calls Try.prog 34 #[.pointer (some ⟨R, 0, none⟩), .string id] w (FeatDrawn w R a len cap p 6 3 60) := by
  have HR := Lib.hid h
  have hRlt := h.lt
  have hcode : Hid (∀ c, w.heap.size ≤ c → ∀ i, i < len → blk a ≠ some c) := fun c hc => h.codeLt hc
  clear h
  go_enter Try.func34, Try.ntmps34
  go_wp2_with fail
  refine (l1Shape_any _ _ _ _ _ _ (HR.out.alloc _) (by omega) hl).mono ?_
  rintro e w1 ⟨k, g, c2, ps, p1, rfl, hown, ⟨hp0, hp6⟩, ⟨hc1, hc2⟩, hr, hp1, hg⟩
  have nw : some w.heap.size ≠ some R := by simp; omega
  obtain ⟨g0, g1, g2, g3⟩ := Box4.new w (.string ⟨#[]⟩) (.int .i64 0) (.slice none 0 0) (.slice none 0 0) 29
  obtain ⟨a3, c3, e3, hpt, _, hrg⟩ := owned_pts hown rfl
  obtain ⟨rfl, rfl⟩ : some ⟨g, 0, none⟩ = a3 ∧ c2 = c3 := by simpa using e3
  have hgl := hrg g (by simp [blk])
  have z1 : w.heap.size < w1.heap.size := by have := hg.size; simp at this; omega
  simp only [World.size_alloc] at hgl
  have L0 : Hid (FeatLay w R a len cap w1.heap.size id k g c2 ps (.slice none 0 0) [] p1 (w1.alloc (.cells #[.string id, .int .i64 k, .slice (some ⟨g, 0, none⟩) ps.length c2, .slice none 0 0] 29))) := by
    have hb : Below w1.heap.size w1 (w1.alloc (.cells #[.string id, .int .i64 k, .slice (some ⟨g, 0, none⟩) ps.length c2, .slice none 0 0] 29)) := (Below.refl _ _).alloc (Nat.le_refl _) _
    obtain ⟨q0, q1, q2, q3⟩ := Box4.new w1 (.string id) (.int .i64 k) (.slice (some ⟨g, 0, none⟩) ps.length c2) (.slice none 0 0) 29
    refine ⟨q0, q1, q2, q3, fun i => by simp [go_sem], cell_later hb ((hg.cell_far _ (by simp) nw).trans g0), cell_later hb ((hg.cell_far _ (by simp) nw).trans g1), cell_later hb ((hg.cell_far _ (by simp) nw).trans g2), cell_later hb ((hg.cell_far _ (by simp) nw).trans g3), fun i => ?_, World.ownsRow_nil _ _ _ _, hpt.below hb, hr.alloc _, ((World.grownBy_alloc w _ _).trans hg).trans (grown_low _ hb)⟩
    rw [hb.frozen (p := ⟨w.heap.size, i, none⟩) z1, hg.frozen_far ⟨w.heap.size, i, none⟩ (by simp) nw]
    simp [go_sem]
  clear hown hr hg g0 g1 g2 g3 e3 hpt hrg
  go_upto_region 2 with (fail)
  generalize (w1.alloc (.cells #[.string id, .int .i64 k, .slice (some ⟨g, 0, none⟩) ps.length c2, .slice none 0 0] 29)) = W at *
  generalize hd : w1.heap.size = d at *
  have gR : R ≠ g := by omega
  have gd : g ≠ d := by omega
  have CD := Lib.hid (hcode.out d (by omega))
  go_wp2_with fail
  refine (pick_any _ _ _ _ _ _ _ L0.out.rd (by omega) hl (by omega) (by omega)).mono ?_
  rintro e w2 ⟨x, rfl, hx0, hx1, hr, hg, hs⟩
  have L1 := Lib.hid (L0.out.read hg hr hRlt z1 gR)
  obtain ⟨X, rfl⟩ : ∃ X : Nat, x = (X : Int) := ⟨x.toNat, by omega⟩
  clear hr hg hs L0
  go_wp2
  go_loopw [6] (fun i wr => ∃ (m : Nat) (v : Value) (ts : List Tg) (q : Int), m ≤ 3 ∧ i = .int .i64 m ∧ ts.length + m ≤ 3 ∧ TagsLen ts 8 ∧ q ≤ p + 50 - 2 * (m : Int) ∧ FeatLay w R a len cap d id k g c2 ps v ts q wr) (fun i _ => (intOf i).toNat)
  case atStart => exact ⟨X, _, [], _, by omega, rfl, by simp; omega, fun i hi => absurd hi (Nat.not_lt_zero _), by omega, L1.out⟩
  case round =>
    clear L1
    obtain ⟨m, v, ts, q, hm, rfl, hts, htl, hq, hlay⟩ := hrel
    have L := Lib.hid (hlay.lay (Below.refl _ _).drew hRlt z1 gR)
    have L' := Lib.hid hlay
    have TL := Lib.hid htl
    clear hlay htl
    by_cases h0 : 0 < m
    · obtain ⟨ta, tc, rfl, htag, _, _⟩ := owned_tags L'.out.own rfl
      clear htag
      have c3 := L.out.c3
      have f3 := L.out.soft 3
      have hdl : d < wr.heap.size := World.block_lt_of_cell? _ _ L'.out.c0
      go_upto_region 5 with (fail)
      go_region_with (first
        | (go_at_call 58; refine (l2Key_any R a len cap _ _ L.out.rd (by omega) hl).mono ?_; rintro e wk ⟨key, rfl, hks, hrk, hgk⟩; have LK := Lib.hid (L.out.read hgk hrk hRlt z1 gR); have c3k := LK.out.c3; have f3k := LK.out.soft 3; clear hrk hgk)
        | (go_at_call 59; refine (l2Val_any R a len cap _ _ LK.out.rd (by omega) hl).mono ?_; rintro e wv ⟨val, rfl, hvs, hrv, hgv⟩; have LV := Lib.hid (LK.out.read hgv hrv hRlt z1 gR); have c3v := LV.out.c3; have f3v := LV.out.soft 3; have TV : Hid (TagsAt wv ta ts) := (tags_of_own LV.out.own); clear hrv hgv)
        | (go_at_call 57; refine (l2Put_any ta tc ts key val _ TV.out (by omega)).mono ?_; rintro e wp ⟨v2, rfl, hown2, hbp⟩; have LP := Lib.hid (LV.out.lay hbp hRlt z1 gR); have c3p := LP.out.c3; have f3p := LP.out.soft 3; have zv : d < wv.heap.size := World.block_lt_of_cell? _ _ c3v; have OP : Hid (wp.ownsRow (d + 1) 81 2 v2 (putS ts (key, val)).length (flatT (putS ts (key, val)))) := owns_base hown2 (by omega); have LF := Lib.hid (LP.out.put OP.out hRlt z1 gd CD.out); obtain ⟨t2, tc2, rfl, _, _, _⟩ := owned_tags hown2 rfl; clear hown2 hbp))
      all_goals
        have hpl := putS_len' (key, val) ts
        have TP := Lib.hid (putS_lens TL.out (key := key) (val := val) (by omega) (by omega))
        obtain ⟨n, rfl⟩ : ∃ n, m = n + 1 := ⟨m - 1, by omega⟩
        clear c3 f3 c3k f3k c3v f3v c3p f3p
        go_wp2
        go_roundw
        case rel => exact ⟨n, _, putS ts (key, val), q + 1 + 1, by omega, congrArg (Value.int .i64) (by omega), by omega, TP.out, by omega, LF.out⟩
        case measure => simp [intOf]
    · obtain rfl : m = 0 := by omega
      obtain ⟨ta, tc, rfl, _, _, _⟩ := owned_tags L'.out.own rfl
      have c0 := L'.out.c0
      have c1 := L'.out.c1
      have c2' := L'.out.c2
      have c3 := L'.out.c3
      have r0 := L'.out.r0
      have r1 := L'.out.r1
      have r2 := L'.out.r2
      have r3 := L'.out.r3
      have s0 := L'.out.rs 0
      have s1 := L'.out.rs 1
      have s2 := L'.out.rs 2
      have s3 := L'.out.rs 3
      go_wp2
      refine bodyPost_ret (v := .agg #[.string id, .int .i64 k, .slice (some ⟨g, 0, none⟩) ps.length c2, .slice ta ts.length tc]) (by simp [results, Try.results34, go_sem, r0, r1, r2, r3]) rfl ?_
      exact L'.out.fin hid hp6 (by omega) TL.out (by omega) hRlt z1 (by omega) (hcode.out _ (Nat.le_refl _))
end Go.Proofs.Ytelimcknhaflfaa

namespace Go.Proofs.Ytelimcknhaflfaa
set_option linter.unusedVariables false
open Go.ChangeShapes Go.WideShapes Go.ChangeAt Go.RowKit Go.Deep

theorem featsLen_put {fs : List Ft} {t : Ft} {m : Int} (h : FeatsLen fs m) (ht : (t.1.size : Int) ≤ m ∧ (t.2.2.1.length : Int) ≤ m ∧ (t.2.2.2.length : Int) ≤ m ∧ TagsLen t.2.2.2 m) : FeatsLen (putL fs t) m := putL_lens h ht

theorem Turned.of_rd {w w' : World} {R : Nat} (h : w.grownBy w' (some R)) : Turned w w' (fun x => x = R) := Turned.of_grown h fun x hx => by simpa using hx.symm

/-- what drawing a list of things leaves: a row of its own -/
def SheetDrawn (w : World) (R : Nat) (a : Option Addr) (len cap : Nat) (p : Int) (n : Nat) (q : Int) (e : Ending) (w' : World) : Prop :=
  ∃ (v : Value) (fs : List Ft) (ad : Nat → Pl) (p' : Int), e = .returned v ∧ Row w' (fun x => w.heap.size ≤ x ∧ x < w'.heap.size) w.heap.size v fs.length fs ad ∧ fs.length ≤ n ∧ FeatsLen fs 8 ∧ Rd w' R a len cap p' ∧ p' ≤ p + q ∧ w.grownBy w' (some R)

theorem Row.wider {w : World} {P Q : Nat → Prop} {lo lo' : Nat} {v : Value} {k : Nat} {fs : List Ft} {ad : Nat → Pl} (h : Row w P lo v k fs ad) (hP : ∀ x, P x → Q x) (hl : lo' ≤ lo) : Row w Q lo' v k fs ad :=
  ⟨owns_base h.row hl, h.pts, h.tags, fun i hi => (h.prng i hi).imp (fun h => h) fun q x hx => ⟨hP x (q x hx).1, (q x hx).2⟩, fun i hi => (h.trng i hi).imp (fun h => h) fun q x hx => ⟨hP x (q x hx).1, (q x hx).2⟩⟩

theorem Row.turned {w w' : World} {P S : Nat → Prop} {lo : Nat} {v : Value} {k : Nat} {fs : List Ft} {ad : Nat → Pl} (h : Row w P lo v k fs ad) (ht : Turned w w' S) (hS : ∀ x, lo ≤ x → ¬ S x) (hP : ∀ x, P x → ¬ S x) : Row w' P lo v k fs ad := by
  refine ⟨?_, fun i hi => (h.pts i hi).turned0 ht ((h.prng i hi).imp (fun h => h) fun q x hx => hP x (q x hx).1), fun i hi => (h.tags i hi).turned0 ht ((h.trng i hi).imp (fun h => h) fun q x hx => hP x (q x hx).1), fun i hi => (h.prng i hi).imp (fun h => h) fun q x hx => ⟨(q x hx).1, Nat.lt_of_lt_of_le (q x hx).2.1 ht.size, (q x hx).2.2⟩, fun i hi => (h.trng i hi).imp (fun h => h) fun q x hx => ⟨(q x hx).1, Nat.lt_of_lt_of_le (q x hx).2.1 ht.size, (q x hx).2.2⟩⟩
  obtain ⟨h1, h2 | ⟨g, cap, cur, h3, h4, hg, h5⟩⟩ := h.row
  · exact ⟨h1, .inl h2⟩
  · exact ⟨h1, .inr ⟨g, cap, cur, h3, h4, (ht.block g (Array.getElem?_eq_some_iff.1 hg).1 (hS g h4)).trans hg, h5⟩⟩

theorem Row.feats {w : World} {lo k : Nat} {v : Value} {fs : List Ft} {ad : Nat → Pl} (h : Row w (fun x => lo ≤ x ∧ x < k) lo v fs.length fs ad) : ∃ a cap, v = .slice a fs.length cap ∧ FeatsFrom lo w a fs := h.from (Nat.le_refl _)

set_option maxRecDepth 100000 in
set_option maxHeartbeats 8000000 in
theorem l3Sheet_any (R : Nat) (a : Option Addr) (len cap : Nat) (p : Int) (w : World) (h : Rd w R a len cap p) (hp : p ≤ 60000) (hl : len ≤ 2000) :
    Calls Try.prog 32 #[.pointer (some ⟨R, 0, none⟩)] w (SheetDrawn w R a len cap p 4 300) := by
  have HR := Lib.hid h
  have hRlt := h.lt
  clear h
  go_enter Try.func32, Try.ntmps32
  go_wp2_with fail
  refine (pick_any _ _ _ _ _ _ _ (HR.out.alloc _) (by omega) hl (by omega) (by omega)).mono ?_
  rintro e w2 ⟨x, rfl, hx0, hx1, hr, hg, hs⟩
  obtain ⟨X, rfl⟩ : ∃ X : Nat, x = (X : Int) := ⟨x.toNat, by omega⟩
  have R2 := Lib.hid hr
  have G2 : Hid (w.grownBy w2 (some R)) := (World.grownBy_alloc w _ _).trans hg
  have O2 : Hid (Row w2 (fun x => w.heap.size ≤ x ∧ x < w2.heap.size) w.heap.size (.slice (some ⟨w.heap.size, 0, none⟩) 0 0) 0 [] (fun _ => ((none, 0), (none, 0)))) := ⟨World.ownsRow.kept (World.ownsRow_made w #[] 0 (Nat.le_refl _) (by unfold maxLen; omega) (by simp)) hg (.inr (by simp [Value.ownBlock]; omega)), fun _ h => absurd h (Nat.not_lt_zero _), fun _ h => absurd h (Nat.not_lt_zero _), fun _ h => absurd h (Nat.not_lt_zero _), fun _ h => absurd h (Nat.not_lt_zero _)⟩
  clear hr hg hs
  go_wp2
  go_loopw [3, 4] (fun s i wr => ∃ (m : Nat) (v : Value) (fs : List Ft) (ad : Nat → Pl) (q : Int), m ≤ 4 ∧ i = .int .i64 m ∧ v = s ∧ fs.length + m ≤ 4 ∧ FeatsLen fs 8 ∧ q ≤ p + 260 - 62 * (m : Int) ∧ Row wr (fun x => w.heap.size ≤ x ∧ x < wr.heap.size) w.heap.size v fs.length fs ad ∧ Rd wr R a len cap q ∧ w.grownBy wr (some R)) (fun _ i _ => (intOf i).toNat)
  case atStart => exact ⟨X, _, [], _, _, by omega, rfl, rfl, by simp; omega, fun i hi => absurd hi (Nat.not_lt_zero _), by omega, O2.out, R2.out, G2.out⟩
  case round =>
    clear O2 R2 G2
    obtain ⟨m, v, fs, ad, q, hm, rfl, rfl, hfm, hfl, hq, hrow, hrd, hgr⟩ := hrel
    have HW := Lib.hid hrow
    have HD := Lib.hid hrd
    have HG := Lib.hid hgr
    have FL := Lib.hid hfl
    have hsz := hgr.size
    clear hrd hgr hfl
    by_cases h0 : 0 < m
    · obtain ⟨sa, sc, rfl, hff⟩ := hrow.feats
      have FF := Lib.hid hff
      clear hff hrow
      go_wp2_with fail
      refine (l2Id_any R a len cap _ _ HD.out (by omega) hl).mono ?_
      rintro e w3 ⟨id, rfl, hids, hr3, hg3⟩
      have hz3 := hg3.size
      have FF3 := Lib.hid (FF.out.turned (Turned.of_rd hg3) (fun x hx _ e => by omega))
      have G3 : Hid (w.grownBy w3 (some R)) := HG.out.trans hg3
      have D3 := Lib.hid hr3
      clear hr3 hg3 FF HD
      go_wp2_with fail
      refine (l2Feat_any R a len cap _ id _ D3.out (by omega) hl hids).mono ?_
      rintro e w4 ⟨id4, k4, pa4, pc4, ps4, ta4, tc4, ts4, p4, rfl, hid4, hpt4, hpr4, hpl4, hown4, htl4, hts4, hr4, hp4, hg4, _⟩
      have hz4 := hg4.size
      have FF4 := Lib.hid (FF3.out.turned (Turned.of_rd hg4) (fun x hx _ e => by omega))
      have G4 : Hid (w.grownBy w4 (some R)) := G3.out.trans hg4
      have D4 := Lib.hid hr4
      have PT := Lib.hid hpt4
      have TT := Lib.hid (tags_of_own hown4)
      have TS := Lib.hid hts4
      have PR : Hid (ps4.length = 0 ∨ ∀ x, blk pa4 = some x → w.heap.size ≤ x) := .inr fun x hx => by have := (hpr4 x hx).1; omega
      have TR : Hid (ts4.length = 0 ∨ ∀ x, blk ta4 = some x → w.heap.size ≤ x) := by
        obtain ⟨a', c', e', _, _, h'⟩ := owned_tags hown4 rfl
        obtain ⟨rfl, rfl⟩ : ta4 = a' ∧ tc4 = c' := by simpa using e'
        exact .inr fun x hx => by have := (h' x hx).1; omega
      clear hpt4 hpr4 hown4 hts4 hr4 hg4 FF3 D3
      go_wp2_with fail
      refine (l3Put_row w.heap.size sa sc fs (id4, k4, ps4, ts4) pa4 ta4 pc4 tc4 _ FF4.out (by omega) PT.out TT.out PR.out TR.out).mono ?_
      rintro e w5 ⟨⟨v5, ad5, rfl, hrow5⟩, hb5⟩
      have hz5 := hb5.size
      have hpl := putL_len (id4, k4, ps4, ts4) fs
      have LL : Hid (FeatsLen (putL fs (id4, k4, ps4, ts4)) 8) := featsLen_put FL.out ⟨by show (id4.size : Int) ≤ 8; omega, by show (ps4.length : Int) ≤ 8; omega, by show (ts4.length : Int) ≤ 8; omega, TS.out⟩
      have RW : Hid (Row w5 (fun x => w.heap.size ≤ x ∧ x < w5.heap.size) w.heap.size v5 (putL fs (id4, k4, ps4, ts4)).length (putL fs (id4, k4, ps4, ts4)) ad5) := hrow5.wider (fun x hx => ⟨hx.1, by omega⟩) (by omega)
      have D5 : Hid (Rd w5 R a len cap p4) := D4.out.kept (r := none) (grown_low _ hb5) (by simp) (fun i hi => by obtain ⟨b, off, c, e, _⟩ := D4.out.bytes i hi; rw [e]; simp [blk])
      have G5 : Hid (w.grownBy w5 (some R)) := G4.out.trans (grown_low _ hb5)
      obtain ⟨n, rfl⟩ : ∃ n, m = n + 1 := ⟨m - 1, by omega⟩
      clear hrow5 hb5
      go_wp2
      go_roundw
      case rel => exact ⟨n, v5, _, ad5, p4, by omega, congrArg (Value.int .i64) (by omega), rfl, by omega, LL.out, by omega, RW.out, D5.out, G5.out⟩
      case measure => simp [intOf]
    · clear hrow
      go_wp2
      go_ret
      exact ⟨v, fs, ad, q, rfl, HW.out, by omega, FL.out, HD.out, by omega, HG.out⟩
end Go.Proofs.Ytelimcknhaflfaa

namespace Go.Proofs.Ytelimcknhaflfaa
set_option linter.unusedVariables false
open Go.ChangeShapes Go.WideShapes Go.ChangeAt Go.RowKit Go.Deep

/-- a thing that is being bent -/
structure BentLay (w : World) (R : Nat) (a : Option Addr) (len cap : Nat) (d : Nat) (id : ByteArray) (k : Int) (pa : Option Addr) (pc : Nat) (ps : List (Int × Int)) (v : Value) (ts : List Tg) (q : Int) (wr : World) : Prop where
  c0 : wr.cell? ⟨d, 0, none⟩ = some (.string id)
  c1 : wr.cell? ⟨d, 1, none⟩ = some (.int .i64 k)
  c2 : wr.cell? ⟨d, 2, none⟩ = some (.slice pa ps.length pc)
  c3 : wr.cell? ⟨d, 3, none⟩ = some v
  soft : ∀ i, wr.frozen? ⟨d, i, none⟩ = false
  r0 : wr.cell? ⟨w.heap.size, 0, none⟩ = some (.string ⟨#[]⟩)
  r1 : wr.cell? ⟨w.heap.size, 1, none⟩ = some (.int .i64 0)
  r2 : wr.cell? ⟨w.heap.size, 2, none⟩ = some (.slice none 0 0)
  r3 : wr.cell? ⟨w.heap.size, 3, none⟩ = some (.slice none 0 0)
  rs : ∀ i, wr.frozen? ⟨w.heap.size, i, none⟩ = false
  own : wr.ownsRow (w.heap.size + 1) 81 2 v ts.length (flatT ts)
  far : v.ownBlock ≠ some d
  pts : PtsAt wr pa ps
  prng : ∀ x, blk pa = some x → w.heap.size < x ∧ x ≠ d ∧ x < wr.heap.size
  rd : Rd wr R a len cap q
  grown : w.grownBy wr (some R)
  apart : ∀ x, blk pa = some x → v.ownBlock ≠ some x

/-- the reader goes on, or memory is made -/
theorem BentLay.read {w wr w' : World} {R : Nat} {a : Option Addr} {len cap d : Nat} {id : ByteArray} {k : Int} {pa : Option Addr} {pc : Nat} {ps : List (Int × Int)} {v : Value} {ts : List Tg} {q q' : Int} (h : BentLay w R a len cap d id k pa pc ps v ts q wr) (hg : wr.grownBy w' (some R)) (hr : Rd w' R a len cap q') (hRw : R < w.heap.size) (hd : w.heap.size < d) : BentLay w R a len cap d id k pa pc ps v ts q' w' := by
  have hdl : d < wr.heap.size := World.block_lt_of_cell? _ _ h.c0
  have hwl : w.heap.size < wr.heap.size := World.block_lt_of_cell? _ _ h.r0
  have nd : some d ≠ some R := by simp; omega
  have nw : some w.heap.size ≠ some R := by simp; omega
  exact ⟨(hg.cell_far _ hdl nd).trans h.c0, (hg.cell_far _ hdl nd).trans h.c1, (hg.cell_far _ hdl nd).trans h.c2, (hg.cell_far _ hdl nd).trans h.c3, fun i => (hg.frozen_far _ hdl nd).trans (h.soft i), (hg.cell_far _ hwl nw).trans h.r0, (hg.cell_far _ hwl nw).trans h.r1, (hg.cell_far _ hwl nw).trans h.r2, (hg.cell_far _ hwl nw).trans h.r3, fun i => (hg.frozen_far _ hwl nw).trans (h.rs i), World.ownsRow.kept h.own hg (.inr fun e => by have := (h.own.lt R e).1; omega), h.far, h.pts.kept hg (fun x hx e => by have := (h.prng x hx).1; simp at e; omega), fun x hx => ⟨(h.prng x hx).1, (h.prng x hx).2.1, Nat.lt_of_lt_of_le (h.prng x hx).2.2 hg.size⟩, hr, h.grown.trans hg, h.apart⟩

/-- a cell of the box is written -/
theorem BentLay.setD {w wr : World} {R : Nat} {a : Option Addr} {len cap d : Nat} {id : ByteArray} {k : Int} {pa : Option Addr} {pc : Nat} {ps : List (Int × Int)} {v : Value} {ts : List Tg} {q : Int} (h : BentLay w R a len cap d id k pa pc ps v ts q wr) (s : ByteArray) (hRw : R < w.heap.size) (hd : w.heap.size < d) (hcd : ∀ i, i < len → blk a ≠ some d) : BentLay w R a len cap d s k pa pc ps v ts q (wr.setCell ⟨d, 0, none⟩ (.string s)) := by
  have hg : wr.grownBy (wr.setCell ⟨d, 0, none⟩ (.string s)) (some d) := grown_set (World.grownBy.refl _ _) _ _
  exact ⟨World.cell?_setCell_same _ _ _ h.c0, (World.cell?_setCell_other _ _ _ _ (by simp)).trans h.c1, (World.cell?_setCell_other _ _ _ _ (by simp)).trans h.c2, (World.cell?_setCell_other _ _ _ _ (by simp)).trans h.c3, fun i => by rw [World.frozen?_setCell]; exact h.soft i, (World.cell?_setCell_other _ _ _ _ (by simp <;> omega)).trans h.r0, (World.cell?_setCell_other _ _ _ _ (by simp <;> omega)).trans h.r1, (World.cell?_setCell_other _ _ _ _ (by simp <;> omega)).trans h.r2, (World.cell?_setCell_other _ _ _ _ (by simp <;> omega)).trans h.r3, fun i => by rw [World.frozen?_setCell]; exact h.rs i, World.ownsRow.kept h.own hg (.inr h.far), h.far, h.pts.kept hg (fun x hx e => by have := (h.prng x hx).2.1; simp at e; omega), fun x hx => ⟨(h.prng x hx).1, (h.prng x hx).2.1, Nat.lt_of_lt_of_le (h.prng x hx).2.2 hg.size⟩, h.rd.kept hg (by simp; omega) hcd, grown_set_new h.grown (by omega), h.apart⟩

/-- another shape is put into the box -/
theorem BentLay.setS {w wr : World} {R : Nat} {a : Option Addr} {len cap d : Nat} {id : ByteArray} {k : Int} {pa : Option Addr} {pc : Nat} {ps : List (Int × Int)} {v : Value} {ts : List Tg} {q : Int} (h : BentLay w R a len cap d id k pa pc ps v ts q wr) (k2 : Int) (pa2 : Option Addr) (pc2 : Nat) (ps2 : List (Int × Int)) (hp2 : PtsAt wr pa2 ps2) (hr2 : ∀ x, blk pa2 = some x → w.heap.size < x ∧ x ≠ d ∧ x < wr.heap.size) (ha2 : ∀ x, blk pa2 = some x → v.ownBlock ≠ some x) (hRw : R < w.heap.size) (hd : w.heap.size < d) (hcd : ∀ i, i < len → blk a ≠ some d) : BentLay w R a len cap d id k2 pa2 pc2 ps2 v ts q ((wr.setCell ⟨d, 1, none⟩ (.int .i64 k2)).setCell ⟨d, 2, none⟩ (.slice pa2 ps2.length pc2)) := by
  have hg : wr.grownBy ((wr.setCell ⟨d, 1, none⟩ (.int .i64 k2)).setCell ⟨d, 2, none⟩ (.slice pa2 ps2.length pc2)) (some d) := grown_set (grown_set (World.grownBy.refl _ _) _ _) _ _
  have o1 : ∀ {o : Nat} {u : Value}, o ≠ 1 → o ≠ 2 → wr.cell? ⟨d, o, none⟩ = some u → ((wr.setCell ⟨d, 1, none⟩ (.int .i64 k2)).setCell ⟨d, 2, none⟩ (.slice pa2 ps2.length pc2)).cell? ⟨d, o, none⟩ = some u := fun h1 h2 hc => (World.cell?_setCell_other _ _ _ _ (by simp <;> omega)).trans ((World.cell?_setCell_other _ _ _ _ (by simp <;> omega)).trans hc)
  have hwl : w.heap.size < wr.heap.size := World.block_lt_of_cell? _ _ h.r0
  have nw : some w.heap.size ≠ some d := by simp; omega
  exact ⟨o1 (by omega) (by omega) h.c0, (World.cell?_setCell_other _ _ _ _ (by simp)).trans (World.cell?_setCell_same _ _ _ h.c1), World.cell?_setCell_same _ _ _ ((World.cell?_setCell_other _ _ _ _ (by simp)).trans h.c2), o1 (by omega) (by omega) h.c3, fun i => by rw [World.frozen?_setCell, World.frozen?_setCell]; exact h.soft i, (hg.cell_far _ hwl nw).trans h.r0, (hg.cell_far _ hwl nw).trans h.r1, (hg.cell_far _ hwl nw).trans h.r2, (hg.cell_far _ hwl nw).trans h.r3, fun i => (hg.frozen_far _ hwl nw).trans (h.rs i), World.ownsRow.kept h.own hg (.inr h.far), h.far, hp2.kept hg (fun x hx e => by have := (hr2 x hx).2.1; simp at e; omega), fun x hx => ⟨(hr2 x hx).1, (hr2 x hx).2.1, Nat.lt_of_lt_of_le (hr2 x hx).2.2 hg.size⟩, h.rd.kept hg (by simp; omega) hcd, grown_set_new (grown_set_new h.grown (by omega)) (by omega), ha2⟩

/-- other tags, appended, are put into the box -/
theorem BentLay.setT {w wr wa : World} {R : Nat} {a : Option Addr} {len cap d : Nat} {id : ByteArray} {k : Int} {pa : Option Addr} {pc : Nat} {ps : List (Int × Int)} {v v' : Value} {ts us : List Tg} {q : Int} {O : Obj} (h : BentLay w R a len cap d id k pa pc ps v ts q wr) (hg0 : (wr.alloc O).grownBy wa v.ownBlock) (ho : wa.ownsRow (w.heap.size + 1) 81 2 v' us.length (flatT us)) (hf : v'.ownBlock ≠ some d) (hap : ∀ x, blk pa = some x → v'.ownBlock ≠ some x) (hRw : R < w.heap.size) (hd : w.heap.size < d) (hcd : ∀ i, i < len → blk a ≠ some d) (hcv : ∀ i, i < len → blk a ≠ v.ownBlock) : BentLay w R a len cap d id k pa pc ps v' us q (wa.setCell ⟨d, 3, none⟩ v') := by
  have hdl : d < wr.heap.size := World.block_lt_of_cell? _ _ h.c0
  have hwl : w.heap.size < wr.heap.size := World.block_lt_of_cell? _ _ h.r0
  have hg1 : wr.grownBy wa v.ownBlock := (World.grownBy_alloc wr O _).trans hg0
  have vl : ∀ x, v.ownBlock = some x → w.heap.size + 1 ≤ x := fun x hx => (h.own.lt x hx).1
  have nd : some d ≠ v.ownBlock := fun e => h.far e.symm
  have nw : some w.heap.size ≠ v.ownBlock := fun e => by have := vl _ e.symm; omega
  have hg : wa.grownBy (wa.setCell ⟨d, 3, none⟩ v') (some d) := grown_set (World.grownBy.refl _ _) _ _
  have s : ∀ {o : Nat} {u : Value}, o ≠ 3 → wr.cell? ⟨d, o, none⟩ = some u → (wa.setCell ⟨d, 3, none⟩ v').cell? ⟨d, o, none⟩ = some u := fun h1 hc => (World.cell?_setCell_other _ _ _ _ (by simp <;> omega)).trans ((hg1.cell_far _ hdl nd).trans hc)
  have r : ∀ {o : Nat} {u : Value}, wr.cell? ⟨w.heap.size, o, none⟩ = some u → (wa.setCell ⟨d, 3, none⟩ v').cell? ⟨w.heap.size, o, none⟩ = some u := fun hc => (World.cell?_setCell_other _ _ _ _ (by simp <;> omega)).trans ((hg1.cell_far _ hwl nw).trans hc)
  refine ⟨s (by omega) h.c0, s (by omega) h.c1, s (by omega) h.c2, World.cell?_setCell_same _ _ _ ((hg1.cell_far _ hdl nd).trans h.c3), fun i => by rw [World.frozen?_setCell, hg1.frozen_far ⟨d, i, none⟩ hdl nd]; exact h.soft i, r h.r0, r h.r1, r h.r2, r h.r3, fun i => by rw [World.frozen?_setCell, hg1.frozen_far ⟨w.heap.size, i, none⟩ hwl nw]; exact h.rs i, World.ownsRow.kept ho hg (.inr hf), hf, (h.pts.kept hg1 (fun x hx e => h.apart x hx e)).kept hg (fun x hx e => by have := (h.prng x hx).2.1; simp at e; omega), fun x hx => ⟨(h.prng x hx).1, (h.prng x hx).2.1, ?_⟩, (h.rd.kept hg1 (fun e => by have := vl R e; omega) hcv).kept hg (by simp; omega) hcd, ?_, hap⟩
  · have h1 := (h.prng x hx).2.2
    have h2 := hg1.size
    have h3 := hg.size
    omega
  · exact grown_set_new ⟨hg1.os.trans h.grown.os, hg1.tape.trans h.grown.tape, hg1.output.trans h.grown.output, Nat.le_trans h.grown.size hg1.size, fun i hi hne => (hg1.block i (Nat.lt_of_lt_of_le hi h.grown.size) (fun e => by have := vl i e.symm; omega)).trans (h.grown.block i hi hne)⟩ (by omega)

/-- what is answered -/
theorem BentLay.fin {w wr : World} {R : Nat} {a : Option Addr} {len cap d : Nat} {id : ByteArray} {k : Int} {pa : Option Addr} {pc : Nat} {ps : List (Int × Int)} {ta : Option Addr} {tc : Nat} {ts : List Tg} {p q : Int} {x0 x1 x2 x3 : Value} (h : BentLay w R a len cap d id k pa pc ps (.slice ta ts.length tc) ts q wr) (hid : id.size ≤ 8) (hps : ps.length ≤ 7) (hts : ts.length ≤ 4) (htl : TagsLen ts 8) (hq : q ≤ p + 130) (hRw : R < w.heap.size) (hcd : ∀ i, i < len → blk a ≠ some w.heap.size) :
    FeatDrawn w R a len cap p 7 4 130 (.returned (.agg #[.string id, .int .i64 k, .slice pa ps.length pc, .slice ta ts.length tc])) ((((wr.setCell ⟨w.heap.size, 0, none⟩ x0).setCell ⟨w.heap.size, 1, none⟩ x1).setCell ⟨w.heap.size, 2, none⟩ x2).setCell ⟨w.heap.size, 3, none⟩ x3) := by
  have hg : wr.grownBy ((((wr.setCell ⟨w.heap.size, 0, none⟩ x0).setCell ⟨w.heap.size, 1, none⟩ x1).setCell ⟨w.heap.size, 2, none⟩ x2).setCell ⟨w.heap.size, 3, none⟩ x3) (some w.heap.size) := grown_set (grown_set (grown_set (grown_set (World.grownBy.refl _ _) _ _) _ _) _ _) _ _
  refine ⟨id, k, _, _, ps, ta, tc, ts, q, rfl, hid, h.pts.kept hg (fun x hx e => by have := (h.prng x hx).1; simp at e; omega), fun x hx => ?_, hps, owns_base (World.ownsRow.kept h.own hg (.inr fun e => by have := (h.own.lt _ e).1; omega)) (by omega), hts, htl, h.rd.kept hg (by simp; omega) hcd, hq, grown_set_new (grown_set_new (grown_set_new (grown_set_new h.grown (Nat.le_refl _)) (Nat.le_refl _)) (Nat.le_refl _)) (Nat.le_refl _), h.apart⟩
  have h1 := (h.prng x hx)
  have h2 := hg.size
  omega

theorem tagsLen_snoc {ts : List Tg} {t : Tg} {m : Int} (h : TagsLen ts m) (ht : (t.1.size : Int) ≤ m ∧ (t.2.size : Int) ≤ m) : TagsLen (ts ++ [t]) m := by
  intro i hi
  by_cases e : i < ts.length
  · have := h i e
    simpa [tk, tv, List.getElem?_append_left e] using this
  · have : i = ts.length := by simp at hi; omega
    subst this
    simpa [tk, tv] using ht

theorem texts_two (w : World) (x y : ByteArray) (t : TypeId) (hx : x.size ≤ 8) (hy : y.size ≤ 8) : TextsAt ((w.alloc (.cells #[.string x, .string y] t)).drew) w.heap.size 2 := by
  intro i hi
  have : i = 0 ∨ i = 1 := by omega
  rcases this with rfl | rfl
  · exact ⟨x, by show (w.alloc (.cells #[.string x, .string y] t)).cell? _ = _; simp [go_sem], hx⟩
  · exact ⟨y, by show (w.alloc (.cells #[.string x, .string y] t)).cell? _ = _; simp [go_sem], hy⟩

theorem HGT {wr wa : World} {O : Obj} {x : Option Nat} {b o : Nat} {v : Value} (hg : (wr.alloc O).grownBy wa x) (hlt : b < wr.heap.size) (hc : wr.cell? ⟨b, o, none⟩ = some v) : x ≠ some b → wa.cell? ⟨b, o, none⟩ = some v := fun hne =>
  (hg.cell_far ⟨b, o, none⟩ (by simp; omega) (Ne.symm hne)).trans ((World.cell?_of_block (w := wr) (Below.heap_alloc _ _ _ hlt)).trans hc)

set_option maxRecDepth 100000 in
set_option maxHeartbeats 8000000 in
theorem l2Bent_any (R : Nat) (a : Option Addr) (len cap : Nat) (p : Int) (w : World) (h : Rd w R a len cap p) (hp : p ≤ 60000) (hl : len ≤ 2000) :
    Calls Try.prog 16 #[.pointer (some ⟨R, 0, none⟩)] w (FeatDrawn w R a len cap p 7 4 130) := by
  have HR := Lib.hid h
  have hRlt := h.lt
  have hcode : Hid (∀ c, w.heap.size ≤ c → ∀ i, i < len → blk a ≠ some c) := fun c hc => h.codeLt hc
  obtain ⟨i0, hi, hz0, hz1, hz2⟩ := info_parts infoT
  have HI := Lib.hid hi
  have HZ0 := Lib.hid hz0
  have HZ1 := Lib.hid hz1
  have HZ2 := Lib.hid hz2
  clear h hi hz0 hz1 hz2
  go_enter Try.func16, Try.ntmps16
  go_wp2_with fail
  refine (l2Id_any _ _ _ _ _ _ (HR.out.alloc _) (by omega) hl).mono ?_
  rintro e u1 ⟨id0, rfl, hids, hr1, hg1⟩
  have nw : some w.heap.size ≠ some R := by simp; omega
  obtain ⟨g0, g1, g2, g3⟩ := Box4.new w (.string ⟨#[]⟩) (.int .i64 0) (.slice none 0 0) (.slice none 0 0) 29
  have D1 := Lib.hid hr1
  have s1 := hg1.size
  simp only [World.size_alloc] at s1
  have HG1 := Lib.hid hg1
  clear hr1 hg1
  go_wp2_with fail
  refine (l2Feat_any R a len cap _ id0 _ D1.out (by omega) hl hids).mono ?_
  rintro e w1 ⟨id, k, pa, pc, ps, ta, tc, ts, p1, rfl, hid, hpt, hpr, hpl, hown, htl, hts, hr, hp1, hg, hap⟩
  have hgw : (w.alloc (.cells #[.string ⟨#[]⟩, .int .i64 0, .slice none 0 0, .slice none 0 0] 29)).grownBy w1 (some R) := HG1.out.trans hg
  have s2 := hg.size
  have z1 : w.heap.size < w1.heap.size := by omega
  have L0 : Hid (BentLay w R a len cap w1.heap.size id k pa pc ps (.slice ta ts.length tc) ts p1 (w1.alloc (.cells #[.string id, .int .i64 k, .slice pa ps.length pc, .slice ta ts.length tc] 29))) := by
    have hb : Below w1.heap.size w1 (w1.alloc (.cells #[.string id, .int .i64 k, .slice pa ps.length pc, .slice ta ts.length tc] 29)) := (Below.refl _ _).alloc (Nat.le_refl _) _
    obtain ⟨q0, q1, q2, q3⟩ := Box4.new w1 (.string id) (.int .i64 k) (.slice pa ps.length pc) (.slice ta ts.length tc) 29
    refine ⟨q0, q1, q2, q3, fun i => by simp [go_sem], cell_later hb ((hgw.cell_far _ (by simp) nw).trans g0), cell_later hb ((hgw.cell_far _ (by simp) nw).trans g1), cell_later hb ((hgw.cell_far _ (by simp) nw).trans g2), cell_later hb ((hgw.cell_far _ (by simp) nw).trans g3), fun i => ?_, owns_base (ownsRow_below hown hb) (by omega), fun e => by have := (hown.lt _ e).2; omega, hpt.below hb, fun x hx => ?_, hr.alloc _, ((World.grownBy_alloc w _ _).trans hgw).trans (grown_low _ hb), hap⟩
    · rw [hb.frozen (p := ⟨w.heap.size, i, none⟩) z1, hgw.frozen_far ⟨w.heap.size, i, none⟩ (by simp) nw]
      simp [go_sem]
    · have := hpr x hx
      simp
      omega
  have TL := Lib.hid hts
  clear hown hr hg g0 g1 g2 g3 hpt hpr hts hgw HG1 D1 hap
  go_upto_region 2 with (fail)
  generalize (w1.alloc (.cells #[.string id, .int .i64 k, .slice pa ps.length pc, .slice ta ts.length tc] 29)) = W at *
  generalize hd : w1.heap.size = d at *
  have CD := Lib.hid (hcode.out d (by omega))
  go_wp2_with fail
  refine (pick_any _ _ _ _ _ _ _ L0.out.rd (by omega) hl (by omega) (by omega)).mono ?_
  rintro e w2 ⟨x, rfl, hx0, hx1, hr, hg, hs⟩
  have L1 := Lib.hid (L0.out.read hg hr hRlt z1)
  obtain ⟨X, rfl⟩ : ∃ X : Nat, x = (X : Int) := ⟨x.toNat, by omega⟩
  clear hr hg hs L0
  have FIN : Hid (∀ (wr : World) (id : ByteArray) (k : Int) (pa : Option Addr) (pc : Nat) (ps : List (Int × Int)) (ta : Option Addr) (tc : Nat) (ts : List Tg) (q : Int) (x0 x1 x2 x3 : Value), BentLay w R a len cap d id k pa pc ps (.slice ta ts.length tc) ts q wr → id.size ≤ 8 → ps.length ≤ 7 → ts.length ≤ 4 → TagsLen ts 8 → q ≤ p + 130 → FeatDrawn w R a len cap p 7 4 130 (.returned (.agg #[.string id, .int .i64 k, .slice pa ps.length pc, .slice ta ts.length tc])) ((((wr.setCell ⟨w.heap.size, 0, none⟩ x0).setCell ⟨w.heap.size, 1, none⟩ x1).setCell ⟨w.heap.size, 2, none⟩ x2).setCell ⟨w.heap.size, 3, none⟩ x3)) := fun wr id k pa pc ps ta tc ts q x0 x1 x2 x3 hL h1 h2 h3 h4 h5 => hL.fin h1 h2 h3 h4 h5 hRlt (hcode.out _ (Nat.le_refl _))
  have FIN2 : Hid (∀ (wr : World) (id : ByteArray) (k : Int) (pa : Option Addr) (pc : Nat) (ps : List (Int × Int)) (v : Value) (ta : Option Addr) (tc : Nat) (ts : List Tg) (q : Int) (x0 x1 x2 x3 : Value), BentLay w R a len cap d id k pa pc ps v ts q wr → v = .slice ta ts.length tc → id.size ≤ 8 → ps.length ≤ 7 → ts.length ≤ 4 → TagsLen ts 8 → q ≤ p + 130 → FeatDrawn w R a len cap p 7 4 130 (.returned (.agg #[.string id, .int .i64 k, .slice pa ps.length pc, v])) ((((wr.setCell ⟨w.heap.size, 0, none⟩ x0).setCell ⟨w.heap.size, 1, none⟩ x1).setCell ⟨w.heap.size, 2, none⟩ x2).setCell ⟨w.heap.size, 3, none⟩ x3)) := fun wr id k pa pc ps v ta tc ts q x0 x1 x2 x3 hL hv h1 h2 h3 h4 h5 => by subst hv; exact FIN.out _ _ _ _ _ _ _ _ _ _ _ _ _ _ hL h1 h2 h3 h4 h5
  have nd1 : ¬ d = w.heap.size := by omega
  have nd2 : ¬ w.heap.size = d := by omega
  by_cases e0 : X = 0
  · subst e0
    go_wp2_with fail
    refine (of_any R w2.heap.size 3 a len cap _ _ (L1.out.rd.alloc _) (by omega) hl (fun i hi => ?_) (by have := L1.out.rd.lt; omega) (by omega) (by omega)).mono ?_
    · have : i = 0 ∨ i = 1 ∨ i = 2 := by omega
      rcases this with rfl | rfl | rfl
      · exact ⟨⟨#[]⟩, by simp [go_sem], by decide⟩
      · exact ⟨⟨#[65]⟩, by simp [go_sem], by decide⟩
      · exact ⟨⟨#[97, 98, 99, 100, 101, 102, 103]⟩, by simp [go_sem], by decide⟩
    rintro e w3 ⟨s, rfl, hss, hr, hg⟩
    have L2 := Lib.hid (L1.out.read ((World.grownBy_alloc w2 _ _).trans hg) hr hRlt z1)
    have L3 := Lib.hid (L2.out.setD s hRlt z1 CD.out)
    clear hr hg L1
    have c0 := L2.out.c0
    have c1 := L2.out.c1
    have c2 := L2.out.c2
    have c3 := L2.out.c3
    have r0 := L2.out.r0
    have r1 := L2.out.r1
    have r2 := L2.out.r2
    have r3 := L2.out.r3
    have t0 := L2.out.rs 0
    have t1 := L2.out.rs 1
    have t2 := L2.out.rs 2
    have t3 := L2.out.rs 3
    have s0 := L2.out.soft 0
    have s1 := L2.out.soft 1
    have s2 := L2.out.soft 2
    have s3 := L2.out.soft 3
    go_wp2
    refine bodyPost_ret (v := .agg #[.string s, .int .i64 k, .slice pa ps.length pc, .slice ta ts.length tc]) (by simp [results, Try.results16, go_sem, r0, r1, r2, r3]) rfl ?_
    exact FIN.out _ _ _ _ _ _ _ _ _ _ _ _ _ _ L3.out hss (by omega) (by omega) TL.out (by omega)
  by_cases e1 : X = 1
  · subst e1
    go_wp2_with fail
    refine (l1Bent_any R a len cap _ _ L1.out.rd (by omega) hl).mono ?_
    rintro e w3 ⟨k3, g3, c3', ps3, p3, rfl, hpt3, _, ⟨hg3a, hg3b⟩, hps3, hr, hp3, hg⟩
    have zd : d < w2.heap.size := World.block_lt_of_cell? _ _ L1.out.c0
    have L2 := Lib.hid (L1.out.read hg hr hRlt z1)
    have L3 := Lib.hid (L2.out.setS k3 (some ⟨g3, 0, none⟩) c3' ps3 hpt3 (fun x hx => by simp [blk] at hx; omega) (fun x hx e => by have := (L1.out.own.lt x e).2; simp [blk] at hx; omega) hRlt z1 CD.out)
    clear hr hg L1 hpt3
    have c0 := L2.out.c0
    have c1 := L2.out.c1
    have c2 := L2.out.c2
    have c3 := L2.out.c3
    have r0 := L2.out.r0
    have r1 := L2.out.r1
    have r2 := L2.out.r2
    have r3 := L2.out.r3
    have t0 := L2.out.rs 0
    have t1 := L2.out.rs 1
    have t2 := L2.out.rs 2
    have t3 := L2.out.rs 3
    have s0 := L2.out.soft 0
    have s1 := L2.out.soft 1
    have s2 := L2.out.soft 2
    have s3 := L2.out.soft 3
    go_wp2
    refine bodyPost_ret (v := .agg #[.string id, .int .i64 k3, .slice (some ⟨g3, 0, none⟩) ps3.length c3', .slice ta ts.length tc]) (by simp [results, Try.results16, go_sem, r0, r1, r2, r3]) rfl ?_
    exact FIN.out _ _ _ _ _ _ _ _ _ _ _ _ _ _ L3.out hid (by omega) (by omega) TL.out (by omega)
  by_cases e2 : X = 2
  · subst e2
    obtain ⟨us, hus0⟩ : ∃ us : List Tg, us = ts ++ [((⟨#[97]⟩ : ByteArray), (⟨#[98]⟩ : ByteArray))] := ⟨_, rfl⟩
    have hul : us.length = ts.length + 1 := by rw [hus0]; simp
    have TU : Hid (TagsLen us 8) := by rw [hus0]; exact tagsLen_snoc TL.out (by decide)
    have hus := Lib.hid hus0
    clear hus0
    have zd : d < w2.heap.size := World.block_lt_of_cell? _ _ L1.out.c0
    have c0 := L1.out.c0
    have c1 := L1.out.c1
    have c2 := L1.out.c2
    have c3 := L1.out.c3
    have r0 := L1.out.r0
    have r1 := L1.out.r1
    have r2 := L1.out.r2
    have r3 := L1.out.r3
    have t0 := L1.out.rs 0
    have t1 := L1.out.rs 1
    have t2 := L1.out.rs 2
    have t3 := L1.out.rs 3
    have s0 := L1.out.soft 0
    have s1 := L1.out.soft 1
    have s2 := L1.out.soft 2
    have s3 := L1.out.soft 3
    go_wp2_with (at_builtin; refine wpList_append_lies _ (by rfl) _ _ _ (by rfl) (w.heap.size + 1) 81 i0 _ 2 32 Try.underlying27 HI.out HZ0.out HZ1.out HZ2.out rfl (by omega) (.slice ta ts.length tc) ts.length (flatT ts) (by rfl) (L1.out.own.alloc _) ⟨w2.heap.size, 0, none⟩ 1 1 [.string ⟨#[97]⟩, .string ⟨#[98]⟩] (by rfl) (by rfl) (World.news_of_block (cs := #[.string ⟨#[97]⟩, .string ⟨#[98]⟩]) (t := 81) (fr := (0, 0)) (heap_alloc_new w2 _)) (by simp [Value.oneCell']) (by omega) (by unfold maxLen; omega) (by omega) (by simp; omega) (w2.heap.size + 1) (by simp) ?_; intro gg cap' wa hown1 hgrow hat hlt'; have ho2 : wa.ownsRow (w.heap.size + 1) 81 2 (.slice (some ⟨gg, 0, none⟩) (ts.length + 1) cap') us.length (flatT us) := (by rw [hul, hus.out, flatT_snoc]; simpa using hown1); have hfd : gg ≠ d := (by rcases hat with h | h; (exact fun e => L1.out.far (h.trans (by rw [e]))); omega); have hfx : ∀ x, blk pa = some x → gg ≠ x := (fun x hx => by rcases hat with h | h; (exact fun e => L1.out.apart x hx (h.trans (by rw [e]))); (have := (L1.out.prng x hx).2.2; omega)); have L3 := Lib.hid (L1.out.setT (v' := .slice (some ⟨gg, 0, none⟩) (ts.length + 1) cap') (us := us) hgrow ho2 (fun e => hfd (by simpa [Value.ownBlock] using e)) (fun x hx e => hfx x hx (by simpa [Value.ownBlock] using e)) hRlt z1 CD.out (fun i hi e => by obtain ⟨b, off, c, e2, hlt2, _⟩ := HR.out.bytes i hi; rw [e2] at e; have := (L1.out.own.lt b e.symm).1; omega)); have gd' : wa.cell? ⟨d, 0, none⟩ = some (.string id) := HGT hgrow zd c0 L1.out.far; have gd1 : wa.cell? ⟨d, 1, none⟩ = some (.int .i64 k) := HGT hgrow zd c1 L1.out.far; have gd2 : wa.cell? ⟨d, 2, none⟩ = some (.slice pa ps.length pc) := HGT hgrow zd c2 L1.out.far; have gd3 : wa.cell? ⟨d, 3, none⟩ = some (.slice ta ts.length tc) := HGT hgrow zd c3 L1.out.far; have gs3 : wa.frozen? ⟨d, 3, none⟩ = false := (hgrow.frozen_far ⟨d, 3, none⟩ (by simp; omega) (fun e => L1.out.far e.symm)).trans ((Below.frozen (p := ⟨d, 3, none⟩) ((Below.refl w2.heap.size w2).alloc (Nat.le_refl _) _) zd).trans s3); have m0 := L3.out.r0; have m1 := L3.out.r1; have m2 := L3.out.r2; have m3 := L3.out.r3; have n0 := L3.out.rs 0; have n1 := L3.out.rs 1; have n2 := L3.out.rs 2; have n3 := L3.out.rs 3)
    have q0 := L3.out.r0
    have q1 := L3.out.r1
    have q2 := L3.out.r2
    have q3 := L3.out.r3
    refine bodyPost_ret (v := .agg #[.string id, .int .i64 k, .slice pa ps.length pc, .slice (some ⟨gg, 0, none⟩) (ts.length + 1) cap']) (by simp [results, Try.results16, go_sem, q0, q1, q2, q3]) rfl ?_
    exact FIN2.out _ _ _ _ _ _ _ (some ⟨gg, 0, none⟩) cap' us _ _ _ _ _ L3.out (by rw [hul]) hid (by omega) (by omega) TU.out (by omega)
  by_cases e3 : X = 3
  · subst e3
    have zd : d < w2.heap.size := World.block_lt_of_cell? _ _ L1.out.c0
    have hRw2 := L1.out.rd.lt
    have c3 := L1.out.c3
    have s3 := L1.out.soft 3
    go_upto_region 10 with (fail)
    go_region_law (first
      | (refine step_append_lies _ (by rfl) _ _ _ (by rfl) (w.heap.size + 1) 81 i0 _ 2 32 Try.underlying27 HI.out HZ0.out HZ1.out HZ2.out rfl (by omega) (.slice ta ts.length tc) ts.length (flatT ts) (by rfl) (L2.out.own.alloc _) ⟨w3.heap.size, 0, none⟩ 1 1 [.string ⟨#[122, 122]⟩, .string s] (by rfl) (by rfl) (World.news_of_block (cs := #[.string ⟨#[122, 122]⟩, .string s]) (t := 81) (fr := (0, 0)) (heap_alloc_new w3 _)) (by simp [Value.oneCell']) (by omega) (by unfold maxLen; omega) (by omega) (by simp; omega) (w3.heap.size + 1) (by simp) ?_; intro gg cap' wa hown1 hgrow hat hlt'; obtain ⟨us, hus⟩ : ∃ us : List Tg, us = ts ++ [((⟨#[122, 122]⟩ : ByteArray), s)] := ⟨_, rfl⟩; have hul : us.length = ts.length + 1 := (by rw [hus]; simp); have TU : Hid (TagsLen us 8) := (by rw [hus]; exact tagsLen_snoc TL.out ⟨by show ((2 : Nat) : Int) ≤ 8; omega, by show (s.size : Int) ≤ 8; omega⟩); have ho2 : wa.ownsRow (w.heap.size + 1) 81 2 (.slice (some ⟨gg, 0, none⟩) (ts.length + 1) cap') us.length (flatT us) := (by rw [hul, hus, flatT_snoc]; simpa using hown1); have hfd : gg ≠ d := (by rcases hat with h | h; (exact fun e => L2.out.far (h.trans (by rw [e]))); omega); have hfx : ∀ x, blk pa = some x → gg ≠ x := (fun x hx => by rcases hat with h | h; (exact fun e => L2.out.apart x hx (h.trans (by rw [e]))); (have := (L2.out.prng x hx).2.2; omega)); have L3 := Lib.hid (L2.out.setT (v' := .slice (some ⟨gg, 0, none⟩) (ts.length + 1) cap') (us := us) hgrow ho2 (fun e => hfd (by simpa [Value.ownBlock] using e)) (fun x hx e => hfx x hx (by simpa [Value.ownBlock] using e)) hRlt z1 CD.out (fun i hi e => by obtain ⟨b, off, c, e2, hlt2, _⟩ := HR.out.bytes i hi; rw [e2] at e; have := (L2.out.own.lt b e.symm).1; omega)); have gd3 : wa.cell? ⟨d, 3, none⟩ = some (.slice ta ts.length tc) := HGT hgrow zd3 c3k L2.out.far; have gs3 : wa.frozen? ⟨d, 3, none⟩ = false := (hgrow.frozen_far ⟨d, 3, none⟩ (by simp; omega) (fun e => L2.out.far e.symm)).trans ((Below.frozen (p := ⟨d, 3, none⟩) ((Below.refl w3.heap.size w3).alloc (Nat.le_refl _) _) zd3).trans s3k); clear hus)
      | (go_simp; go_at_call 36; refine (of_any R w2.heap.size 2 a len cap _ _ ((L1.out.rd.alloc _).drew) (by omega) hl (texts_two w2 _ _ _ (by decide) (by decide)) (by omega) (by omega) (by omega)).mono ?_; rintro e w3 ⟨s, rfl, hss, hr3, hg3⟩; have L2 := Lib.hid (L1.out.read ((World.grownBy_alloc w2 (.cells #[.string ⟨#[]⟩, .string ⟨#[66]⟩] 9) (some R)).trans (show World.grownBy (w2.alloc _) w3 (some R) from ⟨hg3.os, hg3.tape, hg3.output, hg3.size, hg3.block⟩)) hr3 hRlt z1); have c3k := L2.out.c3; have s3k := L2.out.soft 3; have zd3 : d < w3.heap.size := World.block_lt_of_cell? _ _ c3k; clear hr3 hg3; dsimp only))
    all_goals
      have k0 := L3.out.c0
      have k1 := L3.out.c1
      have k2 := L3.out.c2
      have k3 := L3.out.c3
      have m0 := L3.out.r0
      have m1 := L3.out.r1
      have m2 := L3.out.r2
      have m3 := L3.out.r3
      have n0 := L3.out.rs 0
      have n1 := L3.out.rs 1
      have n2 := L3.out.rs 2
      have n3 := L3.out.rs 3
      clear gd3 gs3 c3k s3k c3 s3
      generalize wa.setCell ⟨d, 3, none⟩ (.slice (some ⟨gg, 0, none⟩) (ts.length + 1) cap') = wb at *
      go_wp2
      refine bodyPost_ret (v := .agg #[.string id, .int .i64 k, .slice pa ps.length pc, .slice (some ⟨gg, 0, none⟩) (ts.length + 1) cap']) (by simp [results, Try.results16, go_sem, m0, m1, m2, m3]) rfl ?_
      exact FIN2.out _ _ _ _ _ _ _ (some ⟨gg, 0, none⟩) cap' us _ _ _ _ _ L3.out (by rw [hul]) hid (by omega) (by omega) TU.out (by omega)
  have b0 : ((X : Int) == 0) = false := by simp; omega
  have b1 : ((X : Int) == 1) = false := by simp; omega
  have b2 : ((X : Int) == 2) = false := by simp; omega
  have b3 : ((X : Int) == 3) = false := by simp; omega
  have c0 := L1.out.c0
  have c1 := L1.out.c1
  have c2 := L1.out.c2
  have c3 := L1.out.c3
  have r0 := L1.out.r0
  have r1 := L1.out.r1
  have r2 := L1.out.r2
  have r3 := L1.out.r3
  have t0 := L1.out.rs 0
  have t1 := L1.out.rs 1
  have t2 := L1.out.rs 2
  have t3 := L1.out.rs 3
  go_wp2
  refine bodyPost_ret (v := .agg #[.string id, .int .i64 k, .slice pa ps.length pc, .slice ta ts.length tc]) (by simp [results, Try.results16, go_sem, r0, r1, r2, r3]) rfl ?_
  exact FIN.out _ _ _ _ _ _ _ _ _ _ _ _ _ _ L1.out hid (by omega) (by omega) TL.out (by omega)
end Go.Proofs.Ytelimcknhaflfaa

namespace Go.Proofs.Ytelimcknhaflfaa
set_option linter.unusedVariables false
open Go.ChangeShapes Go.WideShapes Go.ChangeAt Go.RowKit Go.Deep

/-- what drawing a list of things leaves -/
def ListDrawn (w : World) (R : Nat) (a : Option Addr) (len cap : Nat) (p : Int) (n : Nat) (q : Int) (e : Ending) (w' : World) : Prop :=
  ∃ (sa : Option Addr) (sc : Nat) (fs : List Ft) (p' : Int), e = .returned (.slice sa fs.length sc) ∧ FeatsFrom w.heap.size w' sa fs ∧ fs.length ≤ n ∧ FeatsLen fs 8 ∧ Rd w' R a len cap p' ∧ p' ≤ p + q ∧ w.grownBy w' (some R)

theorem featsLen_snoc {fs : List Ft} {t : Ft} {m : Int} (h : FeatsLen fs m) (ht : (t.1.size : Int) ≤ m ∧ (t.2.2.1.length : Int) ≤ m ∧ (t.2.2.2.length : Int) ≤ m ∧ TagsLen t.2.2.2 m) : FeatsLen (fs ++ [t]) m := featsLen_iff.2 fun f hf => by
  rcases List.mem_append.1 hf with h' | h'
  · exact featsLen_iff.1 h f h'
  · obtain rfl : f = t := by simpa using h'
    exact ht
theorem featsLen_app {fs gs : List Ft} {m : Int} (h : FeatsLen fs m) (h' : FeatsLen gs m) : FeatsLen (fs ++ gs) m := featsLen_iff.2 fun f hf => by
  rcases List.mem_append.1 hf with h1 | h1
  · exact featsLen_iff.1 h f h1
  · exact featsLen_iff.1 h' f h1

/-- an append is no turn of the reader -/
theorem grown_own {w wr wa : World} {R lo : Nat} {O : Obj} {v : Value} (h : w.grownBy wr (some R)) (hg : (wr.alloc O).grownBy wa v.ownBlock) (hv : ∀ x, v.ownBlock = some x → w.heap.size ≤ x) : w.grownBy wa (some R) :=
  ⟨hg.os.trans h.os, hg.tape.trans h.tape, hg.output.trans h.output, Nat.le_trans h.size (by have := hg.size; simp at this; omega), fun i hi hne => (hg.block i (by have := h.size; simp; omega) (fun e => by have := hv i e.symm; omega)).trans ((Below.heap_alloc _ _ _ (by have := h.size; omega)).trans (h.block i hi hne))⟩

theorem run_append00 {P : Program} (w : World) (t ty e : TypeId) (i : TypeInfo) (ht : P.underlying t = some (.slice e)) (hi : P.info? e = some i) (a : Option Addr) (c : Nat) :
    (Builtin.append_ #[t, t] ty #[.slice a 0 c, .slice a 0 c]).run P w = .ok (.slice a 0 c) w := by
  cases a with
  | none => simp [Builtin.append_, run_underlying ht, sizeOf, typeInfo, hi, Builtin.lenOf, Builtin.firstCells]
  | some x => simp [Builtin.append_, run_underlying ht, sizeOf, typeInfo, hi, Builtin.lenOf, Builtin.firstCells, loadCells, loadCellsFrom, storeCells]

/-- the places of two lists, one behind the other -/
def plApp (n : Nat) (ad bd : Nat → Pl) (i : Nat) : Pl := if i < n then ad i else bd (i - n)

theorem fg_app_lt {fs gs : List Ft} {i : Nat} (h : i < fs.length) : fg (fs ++ gs) i = fg fs i := by simp [fg, List.getD, h, show i < fs.length + gs.length by omega]
theorem fg_app_ge {fs gs : List Ft} {i : Nat} (h : fs.length ≤ i) : fg (fs ++ gs) i = fg gs (i - fs.length) := by simp [fg, List.getD, List.getElem?_append_right h]

theorem flatF_app1 (fs gs : List Ft) (ad bd : Nat → Pl) : ∀ k, k ≤ fs.length → flatF (fs ++ gs) (plApp fs.length ad bd) k = flatF fs ad k
  | 0, _ => rfl
  | k + 1, h => by
    rw [flatF_succ, flatF_succ, flatF_app1 fs gs ad bd k (by omega), fg_app_lt (by omega)]
    unfold plApp
    rw [if_pos (by omega)]
theorem flatF_app2 (fs gs : List Ft) (ad bd : Nat → Pl) : ∀ k, flatF (fs ++ gs) (plApp fs.length ad bd) (fs.length + k) = flatF fs ad fs.length ++ flatF gs bd k
  | 0 => by rw [Nat.add_zero, flatF_app1 fs gs ad bd _ (Nat.le_refl _)]; simp [flatF]
  | k + 1 => by
    rw [← Nat.add_assoc, flatF_succ, flatF_succ, flatF_app2 fs gs ad bd k, fg_app_ge (by omega), List.append_assoc]
    unfold plApp
    rw [if_neg (by omega), show fs.length + k - fs.length = k by omega]

theorem flatF_cells (fs : List Ft) (ad : Nat → Pl) (k : Nat) : ∀ u ∈ flatF fs ad k, u.oneCell' = true := by
  intro u hu
  unfold flatF at hu
  obtain ⟨i, _, hi⟩ := List.mem_flatMap.1 hu
  simp [cellsF] at hi
  rcases hi with rfl | rfl | rfl | rfl <;> rfl

/-- a row appended to itself -/
theorem Row.twice {wr wa : World} {P : Nat → Prop} {lo : Nat} {v : Value} {fs : List Ft} {ad : Nat → Pl} {gg cap' : Nat} (h : Row wr P lo v fs.length fs ad) (hrow : wa.ownsRow lo 29 4 (.slice (some ⟨gg, 0, none⟩) (fs.length + fs.length) cap') (fs.length + fs.length) (flatF fs ad fs.length ++ flatF fs ad fs.length)) (hg : wr.grownBy wa v.ownBlock) (hat : v.ownBlock = some gg ∨ gg = wr.heap.size) :
    Row wa P lo (.slice (some ⟨gg, 0, none⟩) (fs.length + fs.length) cap') (fs ++ fs).length (fs ++ fs) (plApp fs.length ad ad) := by
  have ht : Turned wr wa (fun x => v.ownBlock = some x) := Turned.of_grown hg fun x hx => hx
  have gne : ∀ x, x < wr.heap.size → v.ownBlock ≠ some x → (Value.slice (some ⟨gg, 0, none⟩) (fs.length + fs.length) cap').ownBlock ≠ some x := fun x hx hn e => by
    obtain rfl : gg = x := by simpa [Value.ownBlock] using e
    rcases hat with h1 | h1
    · exact hn h1
    · omega
  have hl : (fs ++ fs).length = fs.length + fs.length := List.length_append
  have red : ∀ i, i < fs.length + fs.length → ∃ j, j < fs.length ∧ fps (fs ++ fs) i = fps fs j ∧ fts (fs ++ fs) i = fts fs j ∧ plApp fs.length ad ad i = ad j := fun i hi => by
    by_cases e : i < fs.length
    · exact ⟨i, e, by unfold fps; rw [fg_app_lt e], by unfold fts; rw [fg_app_lt e], by unfold plApp; rw [if_pos e]⟩
    · exact ⟨i - fs.length, by omega, by unfold fps; rw [fg_app_ge (by omega)], by unfold fts; rw [fg_app_ge (by omega)], by unfold plApp; rw [if_neg e]⟩
  rw [hl]
  refine ⟨by rw [flatF_app2]; exact hrow, fun i hi => ?_, fun i hi => ?_, fun i hi => ?_, fun i hi => ?_⟩
  all_goals
    obtain ⟨j, hj, e1, e2, e3⟩ := red i hi
    first | rw [e1, e3] | rw [e2, e3]
  · exact (h.pts j hj).turned0 ht ((h.prng j hj).imp (fun h => h) fun q x hx => (q x hx).2.2)
  · exact (h.tags j hj).turned0 ht ((h.trng j hj).imp (fun h => h) fun q x hx => (q x hx).2.2)
  · exact (h.prng j hj).imp (fun h => h) fun q x hx => ⟨(q x hx).1, Nat.lt_of_lt_of_le (q x hx).2.1 hg.size, gne x (q x hx).2.1 (q x hx).2.2⟩
  · exact (h.trng j hj).imp (fun h => h) fun q x hx => ⟨(q x hx).1, Nat.lt_of_lt_of_le (q x hx).2.1 hg.size, gne x (q x hx).2.1 (q x hx).2.2⟩

set_option maxRecDepth 100000 in
set_option maxHeartbeats 8000000 in
theorem l3Bent_any (R : Nat) (a : Option Addr) (len cap : Nat) (p : Int) (w : World) (h : Rd w R a len cap p) (hp : p ≤ 50000) (hl : len ≤ 2000) :
    Calls Try.prog 15 #[.pointer (some ⟨R, 0, none⟩)] w (ListDrawn w R a len cap p 20 500) := by
  have HR := Lib.hid h
  have hRlt := h.lt
  have hcode : Hid (∀ c, w.heap.size ≤ c → ∀ i, i < len → blk a ≠ some c) := fun c hc => h.codeLt hc
  obtain ⟨i0, hi, hz0, hz1, hz2⟩ := info_parts infoF
  have HI := Lib.hid hi
  have HZ0 := Lib.hid hz0
  have HZ1 := Lib.hid hz1
  have HZ2 := Lib.hid hz2
  clear h hi hz0 hz1 hz2
  go_enter Try.func15, Try.ntmps15
  go_wp2_with fail
  refine (l3Sheet_any R a len cap _ _ HR.out (by omega) hl).mono ?_
  rintro e w1 ⟨v, fs, ad, p1, rfl, hrow, hfl, hlens, hr, hp1, hg⟩
  have FL := Lib.hid hlens
  have W1 := Lib.hid hrow
  have D1 := Lib.hid hr
  have G1 := Lib.hid hg
  have z1 := hg.size
  clear hrow hlens hr hg
  go_wp2_with fail
  refine (pick_any _ _ _ _ _ _ _ D1.out (by omega) hl (by omega) (by omega)).mono ?_
  rintro e w2 ⟨x, rfl, hx0, hx1, hr, hg, hs⟩
  have W2 : Hid (Row w2 (fun x => w.heap.size ≤ x ∧ x < w2.heap.size) w.heap.size v fs.length fs ad) := (W1.out.turned (Turned.of_rd hg) (fun x hx e => by omega) (fun x hx e => by have := hx.1; omega)).wider (fun x hx => ⟨hx.1, by have := hx.2; omega⟩) (Nat.le_refl _)
  have D2 := Lib.hid hr
  have G2 : Hid (w.grownBy w2 (some R)) := G1.out.trans hg
  have z2 := hg.size
  obtain ⟨X, rfl⟩ : ∃ X : Nat, x = (X : Int) := ⟨x.toNat, by omega⟩
  have VL : Hid (∀ x, v.ownBlock = some x → w.heap.size ≤ x ∧ x < w2.heap.size) := fun x hx => W2.out.row.lt x hx
  obtain ⟨sa, sc, hv, hff⟩ := W2.out.feats
  have FF := Lib.hid hff
  have HVV := Lib.hid hv
  clear hr hg hs W1 D1 G1 hff hv
  by_cases e0 : X = 0
  · subst e0
    go_wp2_with fail
    refine (l2Bent_any R a len cap _ _ D2.out (by omega) hl).mono ?_
    rintro e w3 ⟨id, k, pa, pc, ps, ta, tc, ts, p3, rfl, hid, hpt, hpr, hpl, hown, htl, hts, hr, hp3, hg, _⟩
    have z3 := hg.size
    have W3 : Hid (Row w3 (fun x => w.heap.size ≤ x ∧ x < w3.heap.size) w.heap.size v fs.length fs ad) := (W2.out.turned (Turned.of_rd hg) (fun x hx e => by omega) (fun x hx e => by have := hx.1; omega)).wider (fun x hx => ⟨hx.1, by have := hx.2; omega⟩) (Nat.le_refl _)
    have D3 := Lib.hid hr
    have G3 : Hid (w.grownBy w3 (some R)) := G2.out.trans hg
    have PT := Lib.hid hpt
    have TT := Lib.hid (tags_of_own hown)
    have PR : Hid (ps.length = 0 ∨ ∀ y, blk pa = some y → (w.heap.size ≤ y ∧ y < w3.heap.size) ∧ y < w3.heap.size ∧ v.ownBlock ≠ some y) := .inr fun y hy => ⟨⟨by have := (hpr y hy).1; omega, (hpr y hy).2⟩, (hpr y hy).2, fun e => by have h1 := (VL.out y e).2; have h2 := (hpr y hy).1; omega⟩
    have TR : Hid (ts.length = 0 ∨ ∀ y, blk ta = some y → (w.heap.size ≤ y ∧ y < w3.heap.size) ∧ y < w3.heap.size ∧ v.ownBlock ≠ some y) := by
      obtain ⟨a', c', e', _, _, h'⟩ := owned_tags hown rfl
      obtain ⟨rfl, rfl⟩ : ta = a' ∧ tc = c' := by simpa using e'
      exact .inr fun y hy => ⟨⟨by have := (h' y hy).1; omega, (h' y hy).2⟩, (h' y hy).2, fun e => by have h1 := (VL.out y e).2; have h2 := (h' y hy).1; omega⟩
    have FN : Hid (FeatsLen (fs ++ [(id, k, ps, ts)]) 8) := featsLen_snoc FL.out ⟨by show (id.size : Int) ≤ 8; omega, by show (ps.length : Int) ≤ 8; omega, by show (ts.length : Int) ≤ 8; omega, hts⟩
    clear hr hg hpt hpr hown hts W2 D2 G2 FF
    go_wp2_with (at_builtin; refine wpList_append_lies _ (by rfl) _ _ _ (by rfl) w.heap.size 29 i0 _ 4 72 Try.underlying23 HI.out HZ0.out HZ1.out HZ2.out rfl (by omega) v fs.length (flatF fs ad fs.length) (by rfl) (W3.out.row.alloc _) ⟨w3.heap.size, 0, none⟩ 1 1 (cellsF (id, k, ps, ts) ((pa, pc), (ta, tc))) (by rfl) (by rfl) (World.news_of_block (cs := #[.string id, .int .i64 k, .slice pa ps.length pc, .slice ta ts.length tc]) (t := 29) (fr := (0, 0)) (heap_alloc_new w3 _)) (by simp [Value.oneCell', cellsF]) (by omega) (by unfold maxLen; omega) (by omega) (by simp; omega) (w3.heap.size + 1) (by simp) ?_; intro gg cap' wa hown1 hgrow hat hlt')
    have HS := Lib.hid (W3.out.snoc (x := (id, k, ps, ts)) PT.out PR.out TT.out TR.out hown1 hgrow hat)
    have RD : Hid (Rd wa R a len cap p3) := (D3.out.alloc _).kept hgrow (fun e => by have := (VL.out R e).1; omega) (fun i hi e => by obtain ⟨b, off, c, e2, hlt2, _⟩ := HR.out.bytes i hi; rw [e2] at e; have := (VL.out b e.symm).1; omega)
    have GA := Lib.hid (grown_own (lo := 0) G3.out hgrow (fun x hx => (VL.out x hx).1))
    obtain ⟨sa', sc', e', hf'⟩ := HS.out.from (Nat.le_refl _)
    have HE := Lib.hid e'
    have HF := Lib.hid hf'
    clear hown1 hgrow hat e' hf'
    go_wp2
    go_ret
    exact ⟨sa', sc', _, p3, congrArg Ending.returned HE.out, HF.out, by simp; omega, FN.out, RD.out, by omega, GA.out⟩
  by_cases e1 : X = 1
  · subst e1
    by_cases hn : fs.length = 0
    · have hv := HVV.out
      rw [hn] at hv
      have FE : Hid (fs = []) := List.eq_nil_of_length_eq_zero hn
      clear HVV hn
      subst hv
      have hr0 : Hid (∀ (ty : TypeId) (u : World), (Builtin.append_ #[23, 23] ty #[.slice sa 0 sc, .slice sa 0 sc]).run Try.prog u = .ok (.slice sa 0 sc) u) := fun ty u => run_append00 u _ ty _ i0 Try.underlying23 HI.out sa sc
      go_wp2_with (at_builtin; refine Lib.wpList_append_run _ rfl _ _ _ _ rfl _ _ rfl rfl _ _ (hr0.out _ _) ?_)
      go_ret
      exact ⟨sa, sc, [], _, rfl, FeatsFrom.nil _ _ _, by simp, fun i hi => absurd hi (Nat.not_lt_zero _), D2.out, by omega, G2.out⟩
    · obtain ⟨g, gcap, hv, hnews⟩ : ∃ g gcap, v = .slice (some ⟨g, 0, none⟩) fs.length gcap ∧ ∀ j u, (flatF fs ad fs.length)[j]? = some u → w2.cell? (Addr.add ⟨g, 0, none⟩ j) = some u := by
        obtain ⟨_, ⟨_, h3⟩ | ⟨g, gcap, cur, e, _, hgb, _, _, _, hx⟩⟩ := W2.out.row
        · exact absurd h3 hn
        · refine ⟨g, gcap, e, fun j u hj => ?_⟩
          have hjl : j < (flatF fs ad fs.length).length := (List.getElem?_eq_some_iff.1 hj).1
          rw [flatF_len] at hjl
          rw [← hx, List.getElem?_take, if_pos hjl] at hj
          rw [add_plain]
          simp only [World.cell?, hgb, Option.isSome_none, Bool.false_eq_true, if_false, Nat.zero_add]
          simpa using hj
      clear HVV
      subst hv
      have NW := Lib.hid hnews
      clear hnews
      have FN : Hid (FeatsLen (fs ++ fs) 8) := featsLen_app FL.out FL.out
      go_wp2_with (at_builtin; refine wpList_append_lies _ (by rfl) _ _ _ (by rfl) w.heap.size 29 i0 _ 4 72 Try.underlying23 HI.out HZ0.out HZ1.out HZ2.out rfl (by omega) (.slice (some ⟨g, 0, none⟩) fs.length gcap) fs.length (flatF fs ad fs.length) (by rfl) W2.out.row ⟨g, 0, none⟩ fs.length gcap (flatF fs ad fs.length) (by rfl) (flatF_len _ _ _) NW.out (flatF_cells _ _ _) (by omega) (by unfold maxLen; omega) (by omega) (by omega) w2.heap.size rfl ?_; intro gg cap' wa hown1 hgrow hat hlt')
      have HS := Lib.hid (W2.out.twice hown1 hgrow hat)
      have RD : Hid (Rd wa R a len cap (p1 + 1)) := D2.out.kept hgrow (fun e => by have := (VL.out R e).1; omega) (fun i hi e => by obtain ⟨b, off, c, e2, hlt2, _⟩ := HR.out.bytes i hi; rw [e2] at e; have := (VL.out b e.symm).1; omega)
      have GA : Hid (w.grownBy wa (some R)) := ⟨hgrow.os.trans G2.out.os, hgrow.tape.trans G2.out.tape, hgrow.output.trans G2.out.output, Nat.le_trans G2.out.size hgrow.size, fun i hi hne => (hgrow.block i (by omega) (fun e => by have := (VL.out i e.symm).1; omega)).trans (G2.out.block i hi hne)⟩
      obtain ⟨sa', sc', e', hf'⟩ := HS.out.from (Nat.le_refl _)
      have HE := Lib.hid e'
      have HF := Lib.hid hf'
      clear hown1 hgrow hat e' hf'
      go_ret
      exact ⟨sa', sc', _, _, congrArg Ending.returned HE.out, HF.out, by simp; omega, FN.out, RD.out, by omega, GA.out⟩
  by_cases e2 : X = 2
  · subst e2
    rw [HVV.out] at VL
    go_wp2
    rw [HVV.out]
    go_loopw [3, 4] (fun s i wr => ∃ (m : Nat) (gs : List Ft) (ga : Option Addr) (gc : Nat), m ≤ 9 ∧ i = .int .i64 m ∧ s = .slice ga gs.length gc ∧ gs.length ≤ 4 + m ∧ FeatsLen gs 8 ∧ FeatsFrom w.heap.size wr ga gs ∧ Rd wr R a len cap (p1 + 1) ∧ w.grownBy wr (some R)) (fun _ i _ => 9 - (intOf i).toNat)
    case atStart => exact ⟨0, fs, sa, sc, by omega, rfl, rfl, by omega, FL.out, FF.out, D2.out, G2.out⟩
    case round =>
      obtain ⟨m, gs, ga, gc, hm, rfl, rfl, hgl, hgs, hgf, hgd, hgg⟩ := hrel
      have GF := Lib.hid hgf
      have GD := Lib.hid hgd
      have GG := Lib.hid hgg
      have GL := Lib.hid hgs
      have zr := hgg.size
      clear hgf hgd hgg hgs
      by_cases hlt : m ≤ 8
      · have g1 : (m : Int) ≤ 8 := by omega
        have A1 : Hid (∀ o, Below wr.heap.size wr (wr.alloc o)) := fun o => (Below.refl _ _).alloc (Nat.le_refl _) _
        have PZ : Hid (PtsAt (wr.alloc (.cells #[.int .i64 0, .int .i64 0] 74)) (some ⟨wr.heap.size, 0, none⟩) [((0 : Int), (0 : Int))]) := fun i hi => by
          obtain rfl : i = 0 := by simp at hi; omega
          exact ⟨wr.heap.size, 0, rfl, by simp, by simp [go_sem, px], by simp [go_sem, py]⟩
        go_wp2_with fail
        refine (l3Put_row w.heap.size ga gc gs (ByteArray.extract ⟨#[113, 114, 115, 116, 117, 118, 119, 120, 121, 122]⟩ m (m + 1), 1, [((0 : Int), (0 : Int))], []) (some ⟨wr.heap.size, 0, none⟩) none 1 0 _ (GF.out.turned (S := fun _ => False) (Turned.of_below (A1.out _)) (fun _ _ _ h => h)) (by omega) PZ.out (fun i hi => absurd hi (Nat.not_lt_zero _)) (.inr fun x hx => by simp [blk] at hx; omega) (.inl rfl)).mono ?_
        rintro e w5 ⟨⟨v5, ad5, rfl, hrow5⟩, hb5⟩
        have hpl := putL_len (ByteArray.extract ⟨#[113, 114, 115, 116, 117, 118, 119, 120, 121, 122]⟩ m (m + 1), 1, [((0 : Int), (0 : Int))], []) gs
        have LL : Hid (FeatsLen (putL gs (ByteArray.extract ⟨#[113, 114, 115, 116, 117, 118, 119, 120, 121, 122]⟩ m (m + 1), 1, [((0 : Int), (0 : Int))], [])) 8) := featsLen_put GL.out ⟨by show ((ByteArray.extract _ m (m + 1)).size : Int) ≤ 8; rw [ByteArray.size_extract]; omega, by show (1 : Int) ≤ 8; omega, by show (0 : Int) ≤ 8; omega, fun i hi => absurd hi (Nat.not_lt_zero _)⟩
        have hbb : Below wr.heap.size wr w5 := (A1.out _).trans (hb5.mono (by simp))
        obtain ⟨g5, c5, rfl, hf5⟩ := hrow5.from (lo := w.heap.size) (by simp; omega)
        have F5 := Lib.hid hf5
        have D5 : Hid (Rd w5 R a len cap (p1 + 1)) := GD.out.kept (r := none) (grown_low _ hbb) (by simp) (fun i hi => by obtain ⟨b, off, c, e, _⟩ := GD.out.bytes i hi; rw [e]; simp [blk])
        have G5 : Hid (w.grownBy w5 (some R)) := GG.out.trans (grown_low _ hbb)
        clear hrow5 hb5 hbb hf5
        go_wp2
        go_roundw
        case rel => exact ⟨m + 1, _, g5, c5, by omega, by go_num, rfl, by omega, LL.out, F5.out, D5.out, G5.out⟩
        case measure => simp [intOf]; omega
      · obtain rfl : m = 9 := by omega
        go_wp2
        go_ret
        exact ⟨ga, gc, gs, _, rfl, GF.out, by omega, GL.out, GD.out, by omega, GG.out⟩
  have b0 : ((X : Int) == 0) = false := by simp; omega
  have b1 : ((X : Int) == 1) = false := by simp; omega
  have b2 : ((X : Int) == 2) = false := by simp; omega
  go_wp2
  go_ret
  exact ⟨sa, sc, fs, _, congrArg Ending.returned HVV.out, FF.out, by omega, FL.out, D2.out, by omega, G2.out⟩
end Go.Proofs.Ytelimcknhaflfaa

namespace Go.Proofs.Ytelimcknhaflfaa
set_option linter.unusedVariables false
open Go.ChangeShapes Go.WideShapes Go.ChangeAt Go.RowKit Go.Deep

/-- a new reader -/
def Opened (w : World) (a : Option Addr) (n cap : Nat) (e : Ending) (w' : World) : Prop :=
  ∃ R m, e = .returned (.pointer (some ⟨R, 0, none⟩)) ∧ w.heap.size ≤ R ∧ m ≤ 2000 ∧ Rd w' R a m cap 0 ∧ Below w.heap.size w w'

theorem CodeAt.less {w : World} {a : Option Addr} {n m : Nat} (h : CodeAt w a n) (hm : m ≤ n) : CodeAt w a m := fun i hi => h i (by omega)

theorem rd_new {w : World} {a : Option Addr} {n cap : Nat} (h : CodeAt w a n) (t : TypeId) : Rd (w.alloc (.cells #[.slice a n cap, .int .i64 0] t)) w.heap.size a n cap 0 := by
  obtain ⟨c0, c1, c2, c3⟩ := cell_two w (.slice a n cap) (.int .i64 0) t
  refine ⟨c0, c1, c3, h.below ((Below.refl _ _).alloc (Nat.le_refl _) _), fun i hi => ?_, Int.le_refl _⟩
  obtain ⟨b, off, c, e, hlt, _⟩ := h i hi
  rw [e]
  simp [blk]
  omega

set_option maxRecDepth 100000 in
set_option maxHeartbeats 1000000 in
theorem l12Open_any (a : Option Addr) (n cap : Nat) (w : World) (h : CodeAt w a n) (hl : n ≤ 1048576) (hc : n ≤ cap) :
    Calls Try.prog 14 #[.slice a n cap] w (Opened w a n cap) := by
  by_cases hn : n ≤ 2000
  · have hg : ¬ (2000 : Int) < (n : Int) := by omega
    have HR := Lib.hid (rd_new (cap := cap) h 71)
    clear h
    go_enter Try.func14, Try.ntmps14
    go_wp2
    go_ret
    exact ⟨w.heap.size, n, rfl, Nat.le_refl _, hn, HR.out, (Below.refl _ _).alloc (Nat.le_refl _) _⟩
  · have hg : (2000 : Int) < (n : Int) := by omega
    have hc2 : (2000 : Int) ≤ (cap : Int) := by omega
    have HR := Lib.hid (rd_new (cap := cap) (h.less (m := 2000) (by omega)) 71)
    obtain ⟨b, off, c, rfl, _⟩ := h 0 (by omega)
    clear h
    go_enter Try.func14, Try.ntmps14
    go_wp2
    go_ret
    exact ⟨w.heap.size, 2000, rfl, Nat.le_refl _, by omega, HR.out, (Below.refl _ _).alloc (Nat.le_refl _) _⟩

/-- a drawn shape -/
def Drawn (w : World) (e : Ending) (w' : World) : Prop :=
  ∃ (k : Int) (g c2 : Nat) (ps : List (Int × Int)), e = .returned (.agg #[.int .i64 k, .slice (some ⟨g, 0, none⟩) ps.length c2]) ∧ PtsAt w' (some ⟨g, 0, none⟩) ps ∧ ps.length ≤ 7 ∧ Below w.heap.size w w'

set_option maxRecDepth 100000 in
/-- a code that came in -/
theorem open_code {H : Type} {enc : TypeId × Value → H} {W : World} {r : Reach} {b0 base : Nat} {spare : Nat → Bool} {held : Bool} {v : Value} {d : DataW H} {p : List MemPlace}
    (hv : Value.okWide Try.prog W r b0 22 v) (h : DataW.Trod enc Try.prog W base spare held 22 v d p) :
    ∃ (a : Option Addr) (n cap : Nat), v = .slice a n cap ∧ CodeAt W a n ∧ n ≤ cap ∧ n ≤ maxLen := by
  obtain ⟨a0, len, cap, rfl⟩ := okWide_slice Try.underlying22 hv
  obtain ⟨fuel, hf⟩ := h
  rcases open_ints Try.underlying22 Try.underlying5 (by kernel_rfl) hf with ⟨hcs, _⟩ | ⟨x, l, c, zs, hcs, _, hl, hm, hz, _, hcell, hwz⟩
  · simp [Value.cells] at hcs
    obtain ⟨rfl, rfl, rfl⟩ := hcs
    exact ⟨none, 0, 0, rfl, fun i hi => absurd hi (Nat.not_lt_zero _), Nat.le_refl _, Nat.zero_le _⟩
  · simp [Value.cells] at hcs
    obtain ⟨rfl, rfl, rfl⟩ := hcs
    have hlz : len ≤ zs.length := by
      rw [hz]
      split <;> omega
    refine ⟨some x, len, cap, rfl, fun i hi => ?_, hl, by omega⟩
    have h0 := hcell 0 (by omega)
    obtain ⟨b, off, spot⟩ := x
    have hspot : spot = none := by simpa [Addr.add] using World.cell?_spot h0
    subst hspot
    have hi' := hcell i (by omega)
    rw [add_plain] at hi'
    have hb := bounds_u8 (hwz (zs.getD i 0) (by rw [List.getD_eq_getElem?_getD, List.getElem?_eq_getElem (by omega)]; exact List.getElem_mem _))
    exact ⟨b, off, zs.getD i 0, rfl, World.block_lt_of_cell? _ _ hi', hi', hb.1, hb.2⟩
end Go.Proofs.Ytelimcknhaflfaa

namespace Go.Proofs.Ytelimcknhaflfaa
set_option linter.unusedVariables false
open Go.ChangeShapes Go.WideShapes Go.ChangeAt Go.RowKit Go.Deep

/-- what DrawSheetPut answers -/
def PutDrawn (w : World) (e : Ending) (w' : World) : Prop :=
  ∃ (sa : Option Addr) (sc : Nat) (fs : List Ft) (f : Ft) (pa : Option Addr) (pc : Nat) (ta : Option Addr) (tc : Nat), e = .returned (.tuple #[.slice sa fs.length sc, .agg #[.string f.1, .int .i64 f.2.1, .slice pa f.2.2.1.length pc, .slice ta f.2.2.2.length tc]]) ∧
    FeatsAt w' sa fs ∧ fs.length ≤ 20 ∧ FeatsLen fs 8 ∧ PtsAt w' pa f.2.2.1 ∧ TagsAt w' ta f.2.2.2 ∧ f.1.size ≤ 8 ∧ f.2.2.1.length ≤ 7 ∧ f.2.2.2.length ≤ 4 ∧ TagsLen f.2.2.2 8 ∧ Below w.heap.size w w'

set_option maxRecDepth 100000 in
set_option maxHeartbeats 4000000 in
theorem drawSheetPut_any (a : Option Addr) (n cap : Nat) (w : World) (h : CodeAt w a n) (hl : n ≤ 1048576) (hc : n ≤ cap) :
    Calls Try.prog 5 #[.slice a n cap] w (PutDrawn w) := by
  have HC := Lib.hid h
  clear h
  have A0 : Hid (∀ o, Below w.heap.size w (w.alloc o)) := fun o => (Below.refl _ _).alloc (Nat.le_refl _) _
  go_enter Try.func5, Try.ntmps5
  go_wp2_with fail
  refine (l12Open_any _ _ _ _ (HC.out.below (A0.out _)) hl hc).mono ?_
  rintro e w1 ⟨R, m, rfl, hR, hm, hr, hb1⟩
  simp only [World.size_alloc] at hR
  have D1 := Lib.hid hr
  have B1 : Hid (Below w.heap.size w w1) := (A0.out _).trans (hb1.mono (by simp))
  have a0 := cell_later hb1 (a := ⟨w.heap.size, 0, none⟩) (v := .string ⟨#[]⟩) (by simp [go_sem])
  have a1 := cell_later hb1 (a := ⟨w.heap.size, 1, none⟩) (v := .int .i64 0) (by simp [go_sem])
  have a2 := cell_later hb1 (a := ⟨w.heap.size, 2, none⟩) (v := .slice none 0 0) (by simp [go_sem])
  have a3 := cell_later hb1 (a := ⟨w.heap.size, 3, none⟩) (v := .slice none 0 0) (by simp [go_sem])
  have z1 : w.heap.size < w1.heap.size := World.block_lt_of_cell? _ _ a0
  have sa : ∀ i, w1.frozen? ⟨w.heap.size, i, none⟩ = false := fun i => by rw [hb1.frozen (p := ⟨w.heap.size, i, none⟩) (by simp)]; simp [go_sem]
  have nR : w.heap.size ≠ R := by omega
  have RES : Hid (∀ u, Turned w1 u (fun x => x = R) → (u.cell? ⟨w.heap.size, 0, none⟩ = some (.string ⟨#[]⟩) ∧ u.cell? ⟨w.heap.size, 1, none⟩ = some (.int .i64 0) ∧ u.cell? ⟨w.heap.size, 2, none⟩ = some (.slice none 0 0) ∧ u.cell? ⟨w.heap.size, 3, none⟩ = some (.slice none 0 0)) ∧ ∀ i, u.frozen? ⟨w.heap.size, i, none⟩ = false) := fun u ht =>
    ⟨⟨ht.cell a0 nR, ht.cell a1 nR, ht.cell a2 nR, ht.cell a3 nR⟩, fun i => (ht.frozen (a := ⟨w.heap.size, i, none⟩) z1 nR).trans (sa i)⟩
  clear hr hb1 a0 a1 a2 a3 sa
  go_wp2_with fail
  refine (l3Bent_any _ _ _ _ _ _ D1.out (by omega) (by omega)).mono ?_
  rintro e w2 ⟨ss, sc, fs, p2, rfl, hff, hfl, hfs, hr, hp2, hg⟩
  have D2 := Lib.hid hr
  have FF := Lib.hid hff
  have FL := Lib.hid hfs
  have T2 := Lib.hid (Turned.of_rd hg)
  have z2 := hg.size
  have zR := D1.out.lt
  clear hr hff hfs hg D1
  go_wp2_with fail
  refine (l2Bent_any _ _ _ _ _ _ D2.out (by omega) (by omega)).mono ?_
  rintro e w3 ⟨id, k, pa, pc, ps, ta, tc, ts, p', rfl, hid, hpt, hpr, hpl, htr, htl, hts, hr, hp3, hg, hne⟩
  have T3 := Lib.hid (Turned.of_rd hg)
  have F3 := Lib.hid (FF.out.turned T3.out (fun z hz _ e => by omega))
  have P3 := Lib.hid hpt
  obtain ⟨ta', tc', et, htt, _, htf⟩ := owned_tags htr rfl
  obtain ⟨rfl, rfl⟩ : ta = ta' ∧ tc = tc' := by simpa using et
  have Q3 := Lib.hid htt
  have TL := Lib.hid hts
  have NP : Hid (∀ x, blk pa = some x → ¬ x = w.heap.size) := fun x hx e => by have := (hpr x hx).1; omega
  have NT : Hid (∀ x, blk ta = some x → ¬ x = w.heap.size) := fun x hx e => by have := (htf x hx).1; omega
  obtain ⟨⟨a0, a1, a2, a3⟩, sa⟩ := RES.out _ (T2.out.trans T3.out)
  have s0 := sa 0
  have s1 := sa 1
  have s2 := sa 2
  have s3 := sa 3
  have B3 : Hid (Below w.heap.size w w3) := B1.out.trans ((T2.out.trans T3.out).below B1.out.size (fun z hz => by omega))
  have z3 := hg.size
  clear sa hr hg hpt hpr htr hts et htt htf hne D2 FF T2 T3 RES
  go_wp2
  have TF : Hid (Turned w3 ((((w3.setCell ⟨w.heap.size, 0, none⟩ (.string id)).setCell ⟨w.heap.size, 1, none⟩ (.int .i64 k)).setCell ⟨w.heap.size, 2, none⟩ (.slice pa ps.length pc)).setCell ⟨w.heap.size, 3, none⟩ (.slice ta ts.length tc)) (fun z => z = w.heap.size)) := (((Turned.of_set (S := fun z => z = w.heap.size) _ _ _ rfl).trans (Turned.of_set _ _ _ rfl)).trans (Turned.of_set _ _ _ rfl)).trans (Turned.of_set _ _ _ rfl)
  refine bodyPost_ret (v := .tuple #[.slice ss fs.length sc, .agg #[.string id, .int .i64 k, .slice pa ps.length pc, .slice ta ts.length tc]]) (by simp [results, Try.results5, go_sem, a0, a1, a2, a3]) rfl ?_
  exact ⟨ss, sc, fs, (id, k, ps, ts), pa, pc, ta, tc, rfl, (F3.out.turned TF.out (fun z hz _ e => by omega)).reads, hfl, FL.out, P3.out.turned TF.out NP.out, Q3.out.turned TF.out NT.out, hid, hpl, htl, TL.out, B3.out.trans (TF.out.below B3.out.size (fun z hz => by omega))⟩
end Go.Proofs.Ytelimcknhaflfaa
