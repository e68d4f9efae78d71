/- Proved here: the model's way of asking whether things are a map answers as the plain definition 'sheetOk' says; lists of at most 1,048,576 things, points and tags, texts of at most 1,048,576 bytes. Proved here: a thing put among things, as the model goes through them, in a row of its own; a thing appended to such a row; lists of at most 1,048,576 things. Proved here: the draw of a map is a list of at most four things in memory of its own, and turns nothing but the reader's place; codes of at most 2,000 bytes. Proved here: the draw of a thing that may be bent is a thing of at most seven points and four tags, and turns nothing but the reader's place; codes of at most 2,000 bytes. Proved here: the draw of a map that may be bent is a list of things in memory of its own, and turns nothing but the reader's place; codes of at most 2,000 bytes. Proved here: an argument that is a shape reads as a kind and a row of points; no condition. Proved here: a code is opened to a reader; the draws of a shape for the laws of the box and of the area are shapes that can be read; a code that came in as an argument. Codes of at most 1,048,576 bytes. Proved here: what is drawn for the laws of a map and a name is a list of things that can be read, and a short name. Proved here: the model's look for a name among things answers the place of the first, or -1; lists of at most 1,048,576 things. -/
import Derived.Test.YtdfadpejddhbkaaGreatH1
import Derived.BigQuiet
import Derived.Test.YtdfadpejddhbkaaGreatWCopyF
import Derived.Deep.AppendLies
import Derived.Deep.QuietTactic
import Derived.Lib.AppendZeros
import Derived.Test.YtdfadpejddhbkaaGreatWBase
import Derived.Deep.SlicePairs
import Derived.Lib.SmallJoins
import Derived.ShutString
import Derived.ChangeOld
import Derived.Test.YtdfadpejddhbkaaGreatWDrawBent
namespace Go.Proofs.YtdfadpejddhbkaaGreat
set_option linter.unusedVariables false
open Go.ChangeShapes Go.WideShapes Go.ChangeAt Go.RowKit

/-- the bytes of a thing's name, by its place -/
def fb (fs : List Ft) (i : Nat) : List UInt8 := (fid fs i).data.toList
/-- a thing is one -/
def ftOk (fs : List Ft) (i : Nat) : Bool := featOk (fid fs i) (fkd fs i) (fps fs i) (fts fs i)
/-- a thing is one, and its name behind the one ahead of it -/
def featGood (fs : List Ft) (i : Nat) : Bool := ftOk fs i && !(decide (0 < i) && decide (fb fs i ≤ fb fs (i - 1)))
def featsGood (fs : List Ft) : Bool := (List.range fs.length).all (featGood fs)
/-- things are a map -/
def sheetOk (fs : List Ft) : Bool := featsGood fs && decide (fs.length ≤ 8)

theorem featsGood_of {fs : List Ft} (h : ∀ j, j < fs.length → featGood fs j = true) : featsGood fs = true := by
  unfold featsGood
  rw [List.all_eq_true]
  intro j hj
  exact h j (by simpa using hj)

theorem featsGood_not {fs : List Ft} {j : Nat} (hj : j < fs.length) (h : featGood fs j = false) : featsGood fs = false := by
  unfold featsGood
  rw [List.all_eq_false]
  exact ⟨j, by simpa using hj, by simp [h]⟩

theorem featsGood_at {fs : List Ft} (h : featsGood fs = true) {j : Nat} (hj : j < fs.length) : featGood fs j = true := by
  unfold featsGood at h
  rw [List.all_eq_true] at h
  exact h j (by simpa using hj)

theorem sheetOk_not {fs : List Ft} {j : Nat} (hj : j < fs.length) (h : featGood fs j = false) : sheetOk fs = false := by
  unfold sheetOk
  rw [featsGood_not hj h]
  rfl

set_option maxRecDepth 100000 in
set_option maxHeartbeats 4000000 in
theorem specSheetOk_any (a : Option Addr) (cap : Nat) (fs : List Ft) (w : World) (hp : FeatsAt w a fs) (hl : fs.length ≤ 1048576) (ht : FeatsLen fs 1048576) :
    Calls Tryz.prog 58 #[.slice a fs.length cap] w fun e w' => e = .returned (.bool (sheetOk fs)) ∧ Below w.heap.size w w' := by
  have HP := Lib.hid hp
  have HL := Lib.hid ht
  clear hp ht
  go_enter Tryz.func58, Tryz.ntmps58
  go_wp2
  go_loopw [3] (fun i wr => ∃ k : Nat, k ≤ fs.length ∧ i = .int .i64 k ∧ Below w.heap.size w wr ∧ ∀ j, j < k → featGood fs j = true) (fun i _ => fs.length - (intOf i).toNat)
  case atStart => exact ⟨0, Nat.zero_le _, rfl, Below.refl _ _, fun j h => absurd h (Nat.not_lt_zero _)⟩
  case round =>
    obtain ⟨k, hk, rfl, hbel, hall⟩ := hrel
    have HA := Lib.hid hall
    have HB := Lib.hid hbel
    have hsz := hbel.size
    clear hall
    by_cases hlt : k < fs.length
    · obtain ⟨b, off, pa, pc, ta, tc, rfl, hb, hc1, hc2, hc3, hc4, hpp, htt⟩ := HP.out k hlt
      obtain ⟨l1, l2, l3, l4⟩ := HL.out k hlt
      rw [← hbel.cell (p := ⟨b, _, none⟩) hb] at hc1 hc2 hc3 hc4
      have D1 := Lib.hid (hpp.below hbel)
      have D2 := Lib.hid (htt.below hbel)
      have L4 := Lib.hid l4
      clear hbel hpp htt l4
      have B0 : Hid (∀ u, Below wr.heap.size wr u → Calls Tryz.prog 74 #[.agg #[.string (fid fs k), .int .i64 (fkd fs k), .slice pa (fps fs k).length pc, .slice ta (fts fs k).length tc]] u fun e w' => e = .returned (.bool (ftOk fs k)) ∧ Below u.heap.size u w') := fun u hu =>
        specFeatOk_any _ _ _ _ _ _ _ _ _ (D1.out.below hu) (D2.out.below hu) (by omega) (by omega) (by omega) L4.out
      clear D1 D2 L4
      by_cases hx : ftOk fs k = true
      · by_cases h0 : k = 0
        · subst h0
          simp only [Nat.zero_mul, Nat.add_zero] at hc1 hc2 hc3 hc4
          have HS : Hid (featGood fs 0 = true) := by simp [Hid, featGood, hx]
          have HC := B0
          rw [hx] at HC
          clear B0 hx
          have q1 : ∀ x : Kept wr, x.1.cell? ⟨b, off, none⟩ = some (.string (fid fs 0)) := fun x => x.cell hc1
          have q2 : ∀ x : Kept wr, x.1.cell? ⟨b, off + 1, none⟩ = some (.int .i64 (fkd fs 0)) := fun x => x.cell hc2
          have q3 : ∀ x : Kept wr, x.1.cell? ⟨b, off + 2, none⟩ = some (.slice pa (fps fs 0).length pc) := fun x => x.cell hc3
          have q4 : ∀ x : Kept wr, x.1.cell? ⟨b, off + 3, none⟩ = some (.slice ta (fts fs 0).length tc) := fun x => x.cell hc4
          clear hc1 hc2 hc3 hc4
          go_wp2
          refine wp_region_kept (by kernel_rfl) (by kernel_rfl) ?_
          repeat (go_big_quiet_step (exact Kept.calls _ (HC.out _ (Subtype.property _))))
          refine wpQuiet_nil ?_
          rintro wn ⟨x, e⟩
          have hbn : Below wr.heap.size wr wn := by rw [e]; exact x.2
          clear e x
          have B : Hid (Below w.heap.size w wn) := HB.out.trans (hbn.mono hsz)
          clear hbn q1 q2 q3 q4
          go_wp2
          go_roundw
          case rel => exact ⟨1, by omega, by go_num, B.out, fun i hi => by by_cases e : i = 0; (subst e; exact HS.out); exact HA.out i (by omega)⟩
          case measure => simp [intOf]; omega
        · obtain ⟨b', off', _, _, _, _, he, _, hd1, _⟩ := HP.out (k - 1) (by omega)
          obtain ⟨rfl, rfl⟩ : b = b' ∧ off = off' := by simpa using he
          clear he
          rw [← HB.out.cell (p := ⟨b, _, none⟩) hb] at hd1
          obtain ⟨j, rfl⟩ : ∃ j, k = j + 1 := ⟨k - 1, by omega⟩
          simp only [Nat.add_sub_cancel] at hd1
          have hg : decide ((0 : Int) < ((j + 1 : Nat) : Int)) = true := by simp
          have hw1 : IntKind.i64.wrap (((j + 1 : Nat) : Int) - 1) = (j : Int) := by rw [IntWalk.i64_in _ (by omega)]; omega
          have HC := B0
          rw [hx] at HC
          clear B0
          by_cases hq : fb fs (j + 1) < fb fs j
          · have HS : Hid (featGood fs (j + 1) = false) := by
              have : fb fs (j + 1) ≤ fb fs j := List.le_of_lt hq
              simp [Hid, featGood, this]
            have e1 := less_of hq
            clear hq hx
            have q1 : ∀ x : Kept wr, x.1.cell? ⟨b, off + (j + 1) * 4, none⟩ = some (.string (fid fs (j + 1))) := fun x => x.cell hc1
            have q2 : ∀ x : Kept wr, x.1.cell? ⟨b, off + (j + 1) * 4 + 1, none⟩ = some (.int .i64 (fkd fs (j + 1))) := fun x => x.cell hc2
            have q3 : ∀ x : Kept wr, x.1.cell? ⟨b, off + (j + 1) * 4 + 2, none⟩ = some (.slice pa (fps fs (j + 1)).length pc) := fun x => x.cell hc3
            have q4 : ∀ x : Kept wr, x.1.cell? ⟨b, off + (j + 1) * 4 + 3, none⟩ = some (.slice ta (fts fs (j + 1)).length tc) := fun x => x.cell hc4
            have q5 : ∀ x : Kept wr, x.1.cell? ⟨b, off + j * 4, none⟩ = some (.string (fid fs j)) := fun x => x.cell hd1
            clear hc1 hc2 hc3 hc4
            clear hd1
            go_wp2
            refine wp_region_kept (by kernel_rfl) (by kernel_rfl) ?_
            repeat (go_big_quiet_step (exact Kept.calls _ (HC.out _ (Subtype.property _))))
            refine wpQuiet_nil ?_
            rintro wn ⟨x, e⟩
            have hbn : Below wr.heap.size wr wn := by rw [e]; exact x.2
            clear e x
            have B : Hid (Below w.heap.size w wn) := HB.out.trans (hbn.mono hsz)
            clear hbn q1 q2 q3 q4
            go_wp2
            go_ret
            exact ⟨by rw [sheetOk_not hlt HS.out]; rfl, B.out⟩
          · have e1 := less_not hq
            by_cases hr : fb fs (j + 1) = fb fs j
            · have HS : Hid (featGood fs (j + 1) = false) := by
                have : fb fs (j + 1) ≤ fb fs j := by rw [hr]; exact List.le_refl _
                simp [Hid, featGood, this]
              have e2 := beq_of hr
              clear hq hr hx
              have q1 : ∀ x : Kept wr, x.1.cell? ⟨b, off + (j + 1) * 4, none⟩ = some (.string (fid fs (j + 1))) := fun x => x.cell hc1
              have q2 : ∀ x : Kept wr, x.1.cell? ⟨b, off + (j + 1) * 4 + 1, none⟩ = some (.int .i64 (fkd fs (j + 1))) := fun x => x.cell hc2
              have q3 : ∀ x : Kept wr, x.1.cell? ⟨b, off + (j + 1) * 4 + 2, none⟩ = some (.slice pa (fps fs (j + 1)).length pc) := fun x => x.cell hc3
              have q4 : ∀ x : Kept wr, x.1.cell? ⟨b, off + (j + 1) * 4 + 3, none⟩ = some (.slice ta (fts fs (j + 1)).length tc) := fun x => x.cell hc4
              have q5 : ∀ x : Kept wr, x.1.cell? ⟨b, off + j * 4, none⟩ = some (.string (fid fs j)) := fun x => x.cell hd1
              clear hc1 hc2 hc3 hc4
              clear hd1
              go_wp2
              refine wp_region_kept (by kernel_rfl) (by kernel_rfl) ?_
              repeat (go_big_quiet_step (exact Kept.calls _ (HC.out _ (Subtype.property _))))
              refine wpQuiet_nil ?_
              rintro wn ⟨x, e⟩
              have hbn : Below wr.heap.size wr wn := by rw [e]; exact x.2
              clear e x
              have B : Hid (Below w.heap.size w wn) := HB.out.trans (hbn.mono hsz)
              clear hbn q1 q2 q3 q4
              go_wp2
              go_ret
              exact ⟨by rw [sheetOk_not hlt HS.out]; rfl, B.out⟩
            · have HS : Hid (featGood fs (j + 1) = true) := by
                have : ¬ fb fs (j + 1) ≤ fb fs j := fun h => hq (lt_of_le_ne h (fun e => hr e.symm))
                simp [Hid, featGood, hx, this]
              have e2 := beq_not hr
              clear hq hr hx
              have q1 : ∀ x : Kept wr, x.1.cell? ⟨b, off + (j + 1) * 4, none⟩ = some (.string (fid fs (j + 1))) := fun x => x.cell hc1
              have q2 : ∀ x : Kept wr, x.1.cell? ⟨b, off + (j + 1) * 4 + 1, none⟩ = some (.int .i64 (fkd fs (j + 1))) := fun x => x.cell hc2
              have q3 : ∀ x : Kept wr, x.1.cell? ⟨b, off + (j + 1) * 4 + 2, none⟩ = some (.slice pa (fps fs (j + 1)).length pc) := fun x => x.cell hc3
              have q4 : ∀ x : Kept wr, x.1.cell? ⟨b, off + (j + 1) * 4 + 3, none⟩ = some (.slice ta (fts fs (j + 1)).length tc) := fun x => x.cell hc4
              have q5 : ∀ x : Kept wr, x.1.cell? ⟨b, off + j * 4, none⟩ = some (.string (fid fs j)) := fun x => x.cell hd1
              clear hc1 hc2 hc3 hc4
              clear hd1
              go_wp2
              refine wp_region_kept (by kernel_rfl) (by kernel_rfl) ?_
              repeat (go_big_quiet_step (exact Kept.calls _ (HC.out _ (Subtype.property _))))
              refine wpQuiet_nil ?_
              rintro wn ⟨x, e⟩
              have hbn : Below wr.heap.size wr wn := by rw [e]; exact x.2
              clear e x
              have B : Hid (Below w.heap.size w wn) := HB.out.trans (hbn.mono hsz)
              clear hbn q1 q2 q3 q4
              go_wp2
              go_roundw
              case rel => exact ⟨j + 1 + 1, by omega, by go_num, B.out, fun i hi => by by_cases e : i = (j + 1); (subst e; exact HS.out); exact HA.out i (by omega)⟩
              case measure => simp [intOf]; omega
      · have hx' : ftOk fs k = false := by simpa using hx
        have HS : Hid (featGood fs k = false) := by simp [Hid, featGood, hx']
        have HC := B0
        rw [hx'] at HC
        clear B0 hx hx'
        have q1 : ∀ x : Kept wr, x.1.cell? ⟨b, off + k * 4, none⟩ = some (.string (fid fs k)) := fun x => x.cell hc1
        have q2 : ∀ x : Kept wr, x.1.cell? ⟨b, off + k * 4 + 1, none⟩ = some (.int .i64 (fkd fs k)) := fun x => x.cell hc2
        have q3 : ∀ x : Kept wr, x.1.cell? ⟨b, off + k * 4 + 2, none⟩ = some (.slice pa (fps fs k).length pc) := fun x => x.cell hc3
        have q4 : ∀ x : Kept wr, x.1.cell? ⟨b, off + k * 4 + 3, none⟩ = some (.slice ta (fts fs k).length tc) := fun x => x.cell hc4
        clear hc1 hc2 hc3 hc4
        go_wp2
        refine wp_region_kept (by kernel_rfl) (by kernel_rfl) ?_
        repeat (go_big_quiet_step (exact Kept.calls _ (HC.out _ (Subtype.property _))))
        refine wpQuiet_nil ?_
        rintro wn ⟨x, e⟩
        have hbn : Below wr.heap.size wr wn := by rw [e]; exact x.2
        clear e x
        have B : Hid (Below w.heap.size w wn) := HB.out.trans (hbn.mono hsz)
        clear hbn q1 q2 q3 q4
        go_wp2
        go_ret
        exact ⟨by rw [sheetOk_not hlt HS.out]; rfl, B.out⟩
    · obtain rfl : k = fs.length := by omega
      have HT := Lib.hid (featsGood_of HA.out)
      clear hbel
      go_wp2
      go_ret
      exact ⟨by unfold sheetOk; rw [HT.out]; simp; omega, HB.out⟩
end Go.Proofs.YtdfadpejddhbkaaGreat

namespace Go.Proofs.YtdfadpejddhbkaaGreat
set_option linter.unusedVariables false
open Go.ChangeShapes Go.WideShapes Go.ChangeAt Go.RowKit Go.Deep

/-- a world that has grown, turned in these blocks alone -/
structure Turned (w w' : World) (S : Nat → Prop) : Prop where
  os : w'.os = w.os
  tape : w'.tape = w.tape
  output : w'.output = w.output
  size : w.heap.size ≤ w'.heap.size
  block : ∀ k, k < w.heap.size → ¬ S k → w'.heap[k]? = w.heap[k]?

theorem Turned.refl (w : World) (S : Nat → Prop) : Turned w w S := ⟨rfl, rfl, rfl, Nat.le_refl _, fun _ _ _ => rfl⟩

theorem Turned.trans {a b c : World} {S : Nat → Prop} (h : Turned a b S) (k : Turned b c S) : Turned a c S :=
  ⟨k.os.trans h.os, k.tape.trans h.tape, k.output.trans h.output, Nat.le_trans h.size k.size, fun i hi hn => (k.block i (Nat.lt_of_lt_of_le hi h.size) hn).trans (h.block i hi hn)⟩

theorem Turned.of_below {w w' : World} {S : Nat → Prop} (h : Below w.heap.size w w') : Turned w w' S := ⟨h.os, h.tape, h.output, h.size, fun k hk _ => h.block k hk⟩

theorem Turned.of_grown {w w' : World} {row : Option Nat} {S : Nat → Prop} (h : w.grownBy w' row) (hS : ∀ x, row = some x → S x) : Turned w w' S :=
  ⟨h.os, h.tape, h.output, h.size, fun k hk hn => h.block k hk (fun e => hn (hS k e.symm))⟩

theorem Turned.of_set (w : World) {b : Nat} (o : Nat) (v : Value) {S : Nat → Prop} (hS : S b) : Turned w (w.setCell ⟨b, o, none⟩ v) S :=
  ⟨rfl, rfl, rfl, by simp [World.setCell], fun k _ hn => Below.heap_setCell _ _ _ _ (fun e => hn (by rw [e]; exact hS))⟩

theorem Turned.cell {w w' : World} {S : Nat → Prop} (h : Turned w w' S) {a : Addr} {v : Value} (hc : w.cell? a = some v) (hn : ¬ S a.block) : w'.cell? a = some v := by
  rw [World.cell?_of_block (h.block _ (World.block_lt_of_cell? _ _ hc) hn)]
  exact hc

theorem Turned.frozen {w w' : World} {S : Nat → Prop} (h : Turned w w' S) {a : Addr} (hlt : a.block < w.heap.size) (hn : ¬ S a.block) : w'.frozen? a = w.frozen? a := World.frozen?_of_block (h.block _ hlt hn)

theorem Turned.below {w w' : World} {S : Nat → Prop} {B : Nat} (h : Turned w w' S) (hB : B ≤ w.heap.size) (hS : ∀ x, S x → B ≤ x) : Below B w w' :=
  ⟨h.os, h.tape, h.output, h.size, fun k hk => h.block k (Nat.lt_of_lt_of_le hk hB) (fun hs => by have := hS k hs; omega)⟩

theorem PtsAt.turned {w w' : World} {a : Option Addr} {ps : List (Int × Int)} {S : Nat → Prop} (h : PtsAt w a ps) (ht : Turned w w' S) (hn : ∀ x, blk a = some x → ¬ S x) : PtsAt w' a ps := by
  intro i hi
  obtain ⟨b, off, rfl, hlt, h1, h2⟩ := h i hi
  exact ⟨b, off, rfl, Nat.lt_of_lt_of_le hlt ht.size, ht.cell h1 (hn b rfl), ht.cell h2 (hn b rfl)⟩

theorem TagsAt.turned {w w' : World} {a : Option Addr} {ts : List Tg} {S : Nat → Prop} (h : TagsAt w a ts) (ht : Turned w w' S) (hn : ∀ x, blk a = some x → ¬ S x) : TagsAt w' a ts := by
  intro i hi
  obtain ⟨b, off, rfl, hlt, h1, h2⟩ := h i hi
  exact ⟨b, off, rfl, Nat.lt_of_lt_of_le hlt ht.size, ht.cell h1 (hn b rfl), ht.cell h2 (hn b rfl)⟩

/-- where the points and tags of a thing lie, and how much room is there -/
abbrev Pl := (Option Addr × Nat) × (Option Addr × Nat)

/-- a thing's cells -/
def cellsF (f : Ft) (p : Pl) : List Value := [.string f.1, .int .i64 f.2.1, .slice p.1.1 f.2.2.1.length p.1.2, .slice p.2.1 f.2.2.2.length p.2.2]

/-- the cells of the first things -/
def flatF (fs : List Ft) (ad : Nat → Pl) (k : Nat) : List Value := (List.range k).flatMap fun i => cellsF (fg fs i) (ad i)

/-- one more place -/
def plSet (ad : Nat → Pl) (k : Nat) (p : Pl) : Nat → Pl := fun i => if i = k then p else ad i

theorem plSet_at (ad : Nat → Pl) (k : Nat) (p : Pl) : plSet ad k p k = p := if_pos rfl

theorem plSet_lt {ad : Nat → Pl} {k i : Nat} {p : Pl} (h : i < k) : plSet ad k p i = ad i := if_neg (by omega)

theorem flatF_succ (fs : List Ft) (ad : Nat → Pl) (k : Nat) : flatF fs ad (k + 1) = flatF fs ad k ++ cellsF (fg fs k) (ad k) := by simp [flatF, List.range_succ, List.flatMap_append]

theorem flatF_len (fs : List Ft) (ad : Nat → Pl) : ∀ k, (flatF fs ad k).length = k * 4
  | 0 => rfl
  | k + 1 => by
    rw [flatF_succ, List.length_append, flatF_len fs ad k]
    simp [cellsF]
    omega

theorem flatF_at (fs : List Ft) (ad : Nat → Pl) : ∀ k i o, i < k → o < 4 → (flatF fs ad k)[i * 4 + o]? = (cellsF (fg fs i) (ad i))[o]?
  | 0, i, o, hi, _ => absurd hi (Nat.not_lt_zero _)
  | k + 1, i, o, hi, ho => by
    rw [flatF_succ]
    have hl := flatF_len fs ad k
    by_cases e : i = k
    · subst e
      rw [List.getElem?_append_right (by omega), hl, show i * 4 + o - i * 4 = o by omega]
    · rw [List.getElem?_append_left (by omega)]
      exact flatF_at fs ad k i o (by omega) ho

theorem flatF_set (fs : List Ft) (ad : Nat → Pl) (p : Pl) (n : Nat) : ∀ k, k ≤ n → flatF fs (plSet ad n p) k = flatF fs ad k
  | 0, _ => rfl
  | k + 1, h => by rw [flatF_succ, flatF_succ, flatF_set fs ad p n k (by omega), plSet_lt (by omega)]

theorem infoF : (Tryz.prog.info? 33).map (fun i => (i.zero, i.size, i.bytes)) = some (some (.agg #[.string .empty, .int .i64 0, .slice none 0 0, .slice none 0 0]), 4, 72) := infoFeat

/-- a list in a row of its own, its parts in blocks of a kind -/
structure Row (w : World) (R : Nat → Prop) (lo : Nat) (v : Value) (k : Nat) (fs : List Ft) (ad : Nat → Pl) : Prop where
  row : w.ownsRow lo 33 4 v k (flatF fs ad k)
  pts : ∀ i, i < k → PtsAt w (ad i).1.1 (fps fs i)
  tags : ∀ i, i < k → TagsAt w (ad i).2.1 (fts fs i)
  prng : ∀ i, i < k → (fps fs i).length = 0 ∨ ∀ x, blk (ad i).1.1 = some x → R x ∧ x < w.heap.size ∧ v.ownBlock ≠ some x
  trng : ∀ i, i < k → (fts fs i).length = 0 ∨ ∀ x, blk (ad i).2.1 = some x → R x ∧ x < w.heap.size ∧ v.ownBlock ≠ some x

theorem PtsAt.turned0 {w w' : World} {a : Option Addr} {ps : List (Int × Int)} {S : Nat → Prop} (h : PtsAt w a ps) (ht : Turned w w' S) (hn : ps.length = 0 ∨ ∀ x, blk a = some x → ¬ S x) : PtsAt w' a ps := by
  rcases hn with h0 | hn
  · exact fun i hi => absurd hi (by omega)
  · exact h.turned ht hn

theorem TagsAt.turned0 {w w' : World} {a : Option Addr} {ts : List Tg} {S : Nat → Prop} (h : TagsAt w a ts) (ht : Turned w w' S) (hn : ts.length = 0 ∨ ∀ x, blk a = some x → ¬ S x) : TagsAt w' a ts := by
  rcases hn with h0 | hn
  · exact fun i hi => absurd hi (by omega)
  · exact h.turned ht hn

theorem Row.below {w w' : World} {R : Nat → Prop} {lo : Nat} {v : Value} {k : Nat} {fs : List Ft} {ad : Nat → Pl} (h : Row w R lo v k fs ad) (hb : Below w.heap.size w w') : Row w' R lo v k fs ad :=
  ⟨ownsRow_below h.row hb, fun i hi => (h.pts i hi).below hb, fun i hi => (h.tags i hi).below hb, fun i hi => (h.prng i hi).imp (fun h => h) fun q x hx => ⟨(q x hx).1, Nat.lt_of_lt_of_le (q x hx).2.1 hb.size, (q x hx).2.2⟩, fun i hi => (h.trng i hi).imp (fun h => h) fun q x hx => ⟨(q x hx).1, Nat.lt_of_lt_of_le (q x hx).2.1 hb.size, (q x hx).2.2⟩⟩

theorem Row.step {wr w3 wb wa : World} {R : Nat → Prop} {lo : Nat} {v : Value} {k : Nat} {fs : List Ft} {ad : Nat → Pl} {p : Pl} {gg cap' : Nat} (h : Row wr R lo v k fs ad) (hb : Below wr.heap.size wr w3) (h3 : Below w3.heap.size w3 wb) (hz : wb.heap.size = w3.heap.size + 1)
    (hp : PtsAt w3 p.1.1 (fps fs k)) (hpf : (fps fs k).length = 0 ∨ ∀ x, blk p.1.1 = some x → R x ∧ x < w3.heap.size ∧ v.ownBlock ≠ some x) (ht : TagsAt w3 p.2.1 (fts fs k)) (htf : (fts fs k).length = 0 ∨ ∀ x, blk p.2.1 = some x → R x ∧ x < w3.heap.size ∧ v.ownBlock ≠ some x)
    (hrow : wa.ownsRow lo 33 4 (.slice (some ⟨gg, 0, none⟩) (k + 1) cap') (k + 1) (flatF fs ad k ++ cellsF (fg fs k) p)) (hg : wb.grownBy wa v.ownBlock) (hat : v.ownBlock = some gg ∨ gg = w3.heap.size + 1) :
    Row wa R lo (.slice (some ⟨gg, 0, none⟩) (k + 1) cap') (k + 1) fs (plSet ad k p) := by
  have hbb : Below wr.heap.size wr wb := hb.trans (h3.mono hb.size)
  have hB := h.below hbb
  have ht' : Turned wb wa (fun x => v.ownBlock = some x) := Turned.of_grown hg fun x hx => hx
  have hwz := hg.size
  have hs3 := hb.size
  have gne : ∀ x, x < w3.heap.size → v.ownBlock ≠ some x → (Value.slice (some ⟨gg, 0, none⟩) (k + 1) cap').ownBlock ≠ some x := fun x hx hn e => by
    obtain rfl : gg = x := by simpa [Value.ownBlock] using e
    rcases hat with h1 | h1
    · exact hn h1
    · omega
  refine ⟨?_, fun i hi => ?_, fun i hi => ?_, fun i hi => ?_, fun i hi => ?_⟩
  · rw [flatF_succ, flatF_set _ _ _ _ _ (Nat.le_refl _), plSet_at]
    exact hrow
  · by_cases e : i = k
    · subst e
      rw [plSet_at]
      exact (hp.below h3).turned0 ht' (hpf.imp (fun h => h) fun q x hx => (q x hx).2.2)
    · rw [plSet_lt (by omega)]
      exact (hB.pts i (by omega)).turned0 ht' ((h.prng i (by omega)).imp (fun h => h) fun q x hx => (q x hx).2.2)
  · by_cases e : i = k
    · subst e
      rw [plSet_at]
      exact (ht.below h3).turned0 ht' (htf.imp (fun h => h) fun q x hx => (q x hx).2.2)
    · rw [plSet_lt (by omega)]
      exact (hB.tags i (by omega)).turned0 ht' ((h.trng i (by omega)).imp (fun h => h) fun q x hx => (q x hx).2.2)
  · by_cases e : i = k
    · subst e
      rw [plSet_at]
      exact hpf.imp (fun h => h) fun q x hx => ⟨(q x hx).1, by have := (q x hx).2.1; omega, gne x (q x hx).2.1 (q x hx).2.2⟩
    · rw [plSet_lt (by omega)]
      exact (h.prng i (by omega)).imp (fun h => h) fun q x hx => ⟨(q x hx).1, by have := (q x hx).2.1; omega, gne x (by have := (q x hx).2.1; omega) (q x hx).2.2⟩
  · by_cases e : i = k
    · subst e
      rw [plSet_at]
      exact htf.imp (fun h => h) fun q x hx => ⟨(q x hx).1, by have := (q x hx).2.1; omega, gne x (q x hx).2.1 (q x hx).2.2⟩
    · rw [plSet_lt (by omega)]
      exact (h.trng i (by omega)).imp (fun h => h) fun q x hx => ⟨(q x hx).1, by have := (q x hx).2.1; omega, gne x (by have := (q x hx).2.1; omega) (q x hx).2.2⟩

/-- a row of its own reads as its things -/
theorem Row.reads {w : World} {R : Nat → Prop} {lo : Nat} {v : Value} {fs : List Ft} {ad : Nat → Pl} (h : Row w R lo v fs.length fs ad) : ∃ a cap, v = .slice a fs.length cap ∧ FeatsAt w a fs ∧ ∀ i, i < fs.length → ∃ b off, a = some ⟨b, off, none⟩ ∧ lo ≤ b ∧ b < w.heap.size ∧
    w.cell? ⟨b, off + i * 4 + 2, none⟩ = some (.slice (ad i).1.1 (fps fs i).length (ad i).1.2) ∧ w.cell? ⟨b, off + i * 4 + 3, none⟩ = some (.slice (ad i).2.1 (fts fs i).length (ad i).2.2) := by
  obtain ⟨h1, ⟨h2, h3⟩ | ⟨b, cap, cur, rfl, hb, hg, hc, hm, hs, hx⟩⟩ := h.row
  · have e : fs = [] := List.eq_nil_of_length_eq_zero (by omega)
    subst e
    exact ⟨none, 0, h2, FeatsAt.nil _ _, fun _ h => absurd h (Nat.not_lt_zero _)⟩
  · have hlt : b < w.heap.size := (Array.getElem?_eq_some_iff.1 hg).1
    have cell : ∀ j v, j < fs.length * 4 → (flatF fs ad fs.length)[j]? = some v → w.cell? ⟨b, 0 + j, none⟩ = some v := by
      intro j v hj hv
      rw [← hx, List.getElem?_take, if_pos hj] at hv
      simp only [World.cell?, hg, Option.isSome_none, Bool.false_eq_true, if_false, Nat.zero_add]
      simpa using hv
    refine ⟨some ⟨b, 0, none⟩, cap, rfl, fun i hi => ?_, fun i hi => ?_⟩
    · have f := fun o ho => flatF_at fs ad fs.length i o hi ho
      exact ⟨b, 0, _, _, _, _, rfl, hlt, cell _ _ (by omega) (f 0 (by omega)), cell _ _ (by omega) (f 1 (by omega)), cell _ _ (by omega) (f 2 (by omega)), cell _ _ (by omega) (f 3 (by omega)), h.pts i hi, h.tags i hi⟩
    · have f := fun o ho => flatF_at fs ad fs.length i o hi ho
      exact ⟨b, 0, rfl, hb, hlt, cell _ _ (by omega) (f 2 (by omega)), cell _ _ (by omega) (f 3 (by omega))⟩

theorem featsLen_iff {fs : List Ft} {m : Int} : FeatsLen fs m ↔ ∀ f ∈ fs, (f.1.size : Int) ≤ m ∧ (f.2.2.1.length : Int) ≤ m ∧ (f.2.2.2.length : Int) ≤ m ∧ TagsLen f.2.2.2 m := by
  constructor
  · intro h f hf
    obtain ⟨i, hi, rfl⟩ := List.getElem_of_mem hf
    have := h i hi
    simpa [fid, fps, fts, fg_get hi] using this
  · intro h i hi
    have := h fs[i] (List.getElem_mem hi)
    simpa [fid, fps, fts, fg_get hi] using this

/-- a name, as bytes -/
def kf (f : Ft) : List UInt8 := f.1.data.toList

/-- a thing put among things, as the model puts it -/
def putL : List Ft → Ft → List Ft
  | [], t => [t]
  | u :: us, t => if kf t ≤ kf u then t :: (u :: us).filter (fun s => decide (kf s ≠ kf t)) else u :: putL us t

/-- what is still to be put -/
def putM : List Ft → Ft → Bool → List Ft
  | [], t, d => if d then [] else [t]
  | u :: us, t, d => (if !d && decide (kf t ≤ kf u) then [t] else []) ++ ((if kf u = kf t then [] else [u]) ++ putM us t (d || decide (kf t ≤ kf u)))

theorem putM_true (t : Ft) : ∀ us : List Ft, putM us t true = us.filter (fun s => decide (kf s ≠ kf t))
  | [] => rfl
  | u :: us => by
    by_cases h : kf u = kf t <;> simp [putM, putM_true t us, h]

theorem putM_false (t : Ft) : ∀ us : List Ft, putM us t false = putL us t
  | [] => rfl
  | u :: us => by
    unfold putM putL
    by_cases h : kf t ≤ kf u
    · rw [if_pos h]
      by_cases h2 : kf u = kf t <;> simp [h, h2, putM_true]
    · rw [if_neg h]
      have h2 : kf u ≠ kf t := fun e => h (by rw [e]; exact List.le_refl _)
      simp [h, h2, putM_false t us]

/-- the rounds that are left make the list whole -/
def PutsL (fs : List Ft) (t : Ft) (j : Nat) (o : List Ft) (d : Bool) : Prop := o ++ putM (fs.drop j) t d = putL fs t

theorem PutsL.start (fs : List Ft) (t : Ft) : PutsL fs t 0 [] false := by simp [PutsL, putM_false]

theorem PutsL.step {fs : List Ft} {t : Ft} {j : Nat} {o : List Ft} {d : Bool} (h : PutsL fs t j o d) (hj : j < fs.length) :
    PutsL fs t (j + 1) (o ++ (if !d && decide (kf t ≤ kf (fg fs j)) then [t] else []) ++ (if kf (fg fs j) = kf t then [] else [fg fs j])) (d || decide (kf t ≤ kf (fg fs j))) := by
  unfold PutsL at *
  rw [List.drop_eq_getElem_cons hj, putM, ← fg_get hj] at h
  rw [← h]
  simp [List.append_assoc]

theorem PutsL.done {fs : List Ft} {t : Ft} {o : List Ft} {d : Bool} (h : PutsL fs t fs.length o d) : o ++ (if d then [] else [t]) = putL fs t := by
  unfold PutsL at h
  rw [List.drop_length] at h
  exact h

theorem putL_len (t : Ft) : ∀ us : List Ft, (putL us t).length ≤ us.length + 1
  | [] => by simp [putL]
  | u :: us => by
    unfold putL
    split
    · have := List.length_filter_le (fun s => decide (kf s ≠ kf t)) (u :: us)
      rw [List.length_cons]
      omega
    · have := putL_len t us
      simp only [List.length_cons]
      omega

theorem putL_mem {s t : Ft} : ∀ {us : List Ft}, s ∈ putL us t → s = t ∨ s ∈ us
  | [], h => by simpa [putL] using h
  | u :: us, h => by
    unfold putL at h
    split at h
    · simp only [List.mem_cons, List.mem_filter] at h
      rcases h with h | h
      · exact .inl h
      · exact .inr (by simpa using h.1)
    · rcases List.mem_cons.1 h with h | h
      · exact .inr (by rw [h]; exact .head _)
      · exact (putL_mem h).imp (fun h => h) fun h => .tail _ h

theorem putL_lens {fs : List Ft} {t : Ft} {m : Int} (h : FeatsLen fs m) (ht : (t.1.size : Int) ≤ m ∧ (t.2.2.1.length : Int) ≤ m ∧ (t.2.2.2.length : Int) ≤ m ∧ TagsLen t.2.2.2 m) : FeatsLen (putL fs t) m := featsLen_iff.2 fun f hf => by
  rcases putL_mem hf with rfl | h'
  · exact ht
  · exact featsLen_iff.1 h f h'

theorem fg_snoc (o : List Ft) (x : Ft) : fg (o ++ [x]) o.length = x := by simp [fg]

theorem fg_snoc_lt {o : List Ft} (x : Ft) {i : Nat} (h : i < o.length) : fg (o ++ [x]) i = fg o i := by simp [fg, List.getD, h, Nat.lt_succ_of_lt h]

theorem flatF_snoc (o : List Ft) (x : Ft) (ad : Nat → Pl) : ∀ k, k ≤ o.length → flatF (o ++ [x]) ad k = flatF o ad k
  | 0, _ => rfl
  | k + 1, h => by rw [flatF_succ, flatF_succ, flatF_snoc o x ad k (by omega), fg_snoc_lt x (by omega)]

/-- a thing appended to a row -/
theorem Row.snoc {wr wa : World} {R : Nat → Prop} {lo : Nat} {v : Value} {o : List Ft} {ad : Nat → Pl} {x : Ft} {pa ta : Option Addr} {pc tc gg cap' : Nat} {O : Obj} (h : Row wr R lo v o.length o ad)
    (hp : PtsAt wr pa x.2.2.1) (hpf : x.2.2.1.length = 0 ∨ ∀ y, blk pa = some y → R y ∧ y < wr.heap.size ∧ v.ownBlock ≠ some y) (ht : TagsAt wr ta x.2.2.2) (htf : x.2.2.2.length = 0 ∨ ∀ y, blk ta = some y → R y ∧ y < wr.heap.size ∧ v.ownBlock ≠ some y)
    (hrow : wa.ownsRow lo 33 4 (.slice (some ⟨gg, 0, none⟩) (o.length + 1) cap') (o.length + 1) (flatF o ad o.length ++ cellsF x ((pa, pc), (ta, tc)))) (hg : (wr.alloc O).grownBy wa v.ownBlock) (hat : v.ownBlock = some gg ∨ gg = wr.heap.size + 1) :
    Row wa R lo (.slice (some ⟨gg, 0, none⟩) (o.length + 1) cap') (o ++ [x]).length (o ++ [x]) (plSet ad o.length ((pa, pc), (ta, tc))) := by
  have e1 := fg_snoc o x
  have h' : Row wr R lo v o.length (o ++ [x]) ad := by
    have ep : ∀ i, i < o.length → fps (o ++ [x]) i = fps o i := fun i hi => by unfold fps; rw [fg_snoc_lt x hi]
    have et : ∀ i, i < o.length → fts (o ++ [x]) i = fts o i := fun i hi => by unfold fts; rw [fg_snoc_lt x hi]
    refine ⟨by rw [flatF_snoc o x ad _ (Nat.le_refl _)]; exact h.row, fun i hi => by rw [ep i hi]; exact h.pts i hi, fun i hi => by rw [et i hi]; exact h.tags i hi, fun i hi => by rw [ep i hi]; exact h.prng i hi, fun i hi => by rw [et i hi]; exact h.trng i hi⟩
  have p1 : fps (o ++ [x]) o.length = x.2.2.1 := by unfold fps; rw [e1]
  have t1 : fts (o ++ [x]) o.length = x.2.2.2 := by unfold fts; rw [e1]
  rw [show (o ++ [x]).length = o.length + 1 by simp]
  exact h'.step (w3 := wr) (wb := wr.alloc O) (p := ((pa, pc), (ta, tc))) (Below.refl _ _) ((Below.refl _ _).alloc (Nat.le_refl _) _) (by simp) (by rw [p1]; exact hp) (by rw [p1]; exact hpf) (by rw [t1]; exact ht) (by rw [t1]; exact htf) (by rw [flatF_snoc o x ad _ (Nat.le_refl _), e1]; exact hrow) hg hat

theorem HGF_cell {wr wa : World} {O : Obj} {x : Option Nat} {b o : Nat} {v : Value} (hg : (wr.alloc O).grownBy wa x) (hlt : b < wr.heap.size) (hc : wr.cell? ⟨b, o, none⟩ = some v) : x ≠ some b → wa.cell? ⟨b, o, none⟩ = some v := fun hne =>
  (hg.cell_far ⟨b, o, none⟩ (by simp; omega) (Ne.symm hne)).trans ((World.cell?_of_block (w := wr) (Below.heap_alloc _ _ _ hlt)).trans hc)

theorem BoxF.grown {wr wa : World} {O : Obj} {x : Option Nat} {b : Nat} {v0 v1 v2 v3 : Value} (h : Box4 wr b v0 v1 v2 v3) (hg : (wr.alloc O).grownBy wa x) (hn : x ≠ some b) : Box4 wa b v0 v1 v2 v3 :=
  ⟨HGF_cell hg h.lt h.1 hn, HGF_cell hg h.lt h.2.1 hn, HGF_cell hg h.lt h.2.2.1 hn, HGF_cell hg h.lt h.2.2.2 hn⟩

theorem PtsKeep {wr wa : World} {O : Obj} {x : Option Nat} {a : Option Addr} {ps : List (Int × Int)} (h : PtsAt wr a ps) (hg : (wr.alloc O).grownBy wa x) (hn : ps.length = 0 ∨ ∀ y, blk a = some y → ¬ x = some y) : PtsAt wa a ps :=
  (h.below ((Below.refl _ _).alloc (Nat.le_refl _) O)).turned0 (S := fun y => x = some y) (Turned.of_grown hg fun y hy => hy) hn

theorem TagsKeep {wr wa : World} {O : Obj} {x : Option Nat} {a : Option Addr} {ts : List Tg} (h : TagsAt wr a ts) (hg : (wr.alloc O).grownBy wa x) (hn : ts.length = 0 ∨ ∀ y, blk a = some y → ¬ x = some y) : TagsAt wa a ts :=
  (h.below ((Below.refl _ _).alloc (Nat.le_refl _) O)).turned0 (S := fun y => x = some y) (Turned.of_grown hg fun y hy => hy) hn

theorem kf_eq {x y : Ft} : kf x = kf y ↔ x.1 = y.1 := by
  constructor
  · intro e
    rw [← toList_inj, ByteArray.toList_eq, ByteArray.toList_eq]
    exact e
  · intro e
    unfold kf
    rw [e]

theorem pts_low {w : World} {a : Option Addr} {ps : List (Int × Int)} (h : PtsAt w a ps) : ps.length = 0 ∨ ∀ x, blk a = some x → x < w.heap.size := by
  by_cases h0 : ps.length = 0
  · exact .inl h0
  · obtain ⟨b', o', rfl, h1, _⟩ := h 0 (by omega)
    exact .inr fun x hx => by obtain rfl : b' = x := (by simpa [blk] using hx); exact h1

theorem tags_low {w : World} {a : Option Addr} {ts : List Tg} (h : TagsAt w a ts) : ts.length = 0 ∨ ∀ x, blk a = some x → x < w.heap.size := by
  by_cases h0 : ts.length = 0
  · exact .inl h0
  · obtain ⟨b', o', rfl, h1, _⟩ := h 0 (by omega)
    exact .inr fun x hx => by obtain rfl : b' = x := (by simpa [blk] using hx); exact h1

theorem low_from {n k lo : Nat} {a : Option Addr} (h : n = 0 ∨ ∀ x, blk a = some x → x < k) (h' : n = 0 ∨ ∀ x, blk a = some x → lo ≤ x) : n = 0 ∨ ∀ x, blk a = some x → lo ≤ x ∧ x < k := by
  rcases h with h | h
  · exact .inl h
  · rcases h' with h' | h'
    · exact .inl h'
    · exact .inr fun x hx => ⟨h' x hx, h x hx⟩

/-- a list of things whose memory lies from this block on -/
def FeatsFrom (lo : Nat) (w : World) (a : Option Addr) (fs : List Ft) : Prop :=
  ∀ i, i < fs.length → ∃ b off pa pc ta tc, a = some ⟨b, off, none⟩ ∧ lo ≤ b ∧ b < w.heap.size ∧ w.cell? ⟨b, off + i * 4, none⟩ = some (.string (fid fs i)) ∧ w.cell? ⟨b, off + i * 4 + 1, none⟩ = some (.int .i64 (fkd fs i)) ∧ w.cell? ⟨b, off + i * 4 + 2, none⟩ = some (.slice pa (fps fs i).length pc) ∧ w.cell? ⟨b, off + i * 4 + 3, none⟩ = some (.slice ta (fts fs i).length tc) ∧ PtsAt w pa (fps fs i) ∧ TagsAt w ta (fts fs i) ∧ ((fps fs i).length = 0 ∨ ∀ x, blk pa = some x → lo ≤ x) ∧ ((fts fs i).length = 0 ∨ ∀ x, blk ta = some x → lo ≤ x)

theorem FeatsFrom.reads {lo : Nat} {w : World} {a : Option Addr} {fs : List Ft} (h : FeatsFrom lo w a fs) : FeatsAt w a fs := fun i hi => by
  obtain ⟨b, off, pa, pc, ta, tc, e, _, hb, h1, h2, h3, h4, h5, h6, _⟩ := h i hi
  exact ⟨b, off, pa, pc, ta, tc, e, hb, h1, h2, h3, h4, h5, h6⟩

theorem FeatsFrom.turned {lo : Nat} {w w' : World} {a : Option Addr} {fs : List Ft} {S : Nat → Prop} (h : FeatsFrom lo w a fs) (ht : Turned w w' S) (hS : ∀ x, lo ≤ x → x < w.heap.size → ¬ S x) : FeatsFrom lo w' a fs := fun i hi => by
  obtain ⟨b, off, pa, pc, ta, tc, e, hl, hb, h1, h2, h3, h4, h5, h6, h7, h8⟩ := h i hi
  have nb := hS b hl hb
  exact ⟨b, off, pa, pc, ta, tc, e, hl, Nat.lt_of_lt_of_le hb ht.size, ht.cell h1 nb, ht.cell h2 nb, ht.cell h3 nb, ht.cell h4 nb, h5.turned0 ht ((low_from (pts_low h5) h7).imp (fun h => h) fun q x hx => hS x (q x hx).1 (q x hx).2), h6.turned0 ht ((low_from (tags_low h6) h8).imp (fun h => h) fun q x hx => hS x (q x hx).1 (q x hx).2), h7, h8⟩

theorem FeatsFrom.nil (lo : Nat) (w : World) (a : Option Addr) : FeatsFrom lo w a [] := fun _ h => absurd h (Nat.not_lt_zero _)

theorem Row.from {w : World} {lo k b0 : Nat} {v : Value} {fs : List Ft} {ad : Nat → Pl} (h : Row w (fun x => lo ≤ x ∧ x < k) b0 v fs.length fs ad) (hb : lo ≤ b0) : ∃ a cap, v = .slice a fs.length cap ∧ FeatsFrom lo w a fs := by
  obtain ⟨a, cap, rfl, hF, hR⟩ := h.reads
  refine ⟨a, cap, rfl, fun i hi => ?_⟩
  obtain ⟨b, off, rfl, g1, g2, g3, g4⟩ := hR i hi
  obtain ⟨b', off', pa, pc, ta, tc, e, hlt, h1, h2, h3, h4, h5, h6⟩ := hF i hi
  obtain ⟨rfl, rfl⟩ : b = b' ∧ off = off' := by simpa using e
  exact ⟨b, off, _, _, _, _, rfl, Nat.le_trans hb g1, g2, h1, h2, g3, g4, h.pts i hi, h.tags i hi, (h.prng i hi).imp (fun h => h) fun q x hx => (q x hx).1.1, (h.trng i hi).imp (fun h => h) fun q x hx => (q x hx).1.1⟩

set_option maxRecDepth 100000 in
set_option maxHeartbeats 8000000 in
theorem l3Put_row (lo : Nat) (a : Option Addr) (cap : Nat) (fs : List Ft) (f : Ft) (pf tf : Option Addr) (pfc tfc : Nat) (w : World) (hp : FeatsFrom lo w a fs) (hl : fs.length ≤ 1048576) (hpf : PtsAt w pf f.2.2.1) (htf : TagsAt w tf f.2.2.2) (hpl : f.2.2.1.length = 0 ∨ ∀ x, blk pf = some x → lo ≤ x) (htl : f.2.2.2.length = 0 ∨ ∀ x, blk tf = some x → lo ≤ x) :
    Calls Tryz.prog 73 #[.slice a fs.length cap, .agg #[.string f.1, .int .i64 f.2.1, .slice pf f.2.2.1.length pfc, .slice tf f.2.2.2.length tfc]] w fun e w' => (∃ v ad, e = .returned v ∧ Row w' (fun x => lo ≤ x ∧ x < w.heap.size) (w.heap.size + 1) v (putL fs f).length (putL fs f) ad) ∧ Below w.heap.size w w' := by
  obtain ⟨i0, hi, hz0, hz1, hz2⟩ := info_parts infoF
  have HI := Lib.hid hi
  have HZ0 := Lib.hid hz0
  have HZ1 := Lib.hid hz1
  have HZ2 := Lib.hid hz2
  have HP := Lib.hid hp
  have FP := Lib.hid hpf
  have FT := Lib.hid htf
  have PF := Lib.hid (low_from (pts_low hpf) hpl)
  have TF := Lib.hid (low_from (tags_low htf) htl)
  clear hi hz0 hz1 hz2 hp hpf htf
  go_enter Tryz.func73, Tryz.ntmps73
  go_wp2
  go_loopw [5, 6, 7] (fun s d i wr => ∃ (j : Nat) (v : Value) (o : List Ft) (q : Bool) (ad : Nat → Pl), j ≤ fs.length ∧ i = .int .i64 j ∧ d = .bool q ∧ v = s ∧ PutsL fs f j o q ∧ o.length ≤ j + q.toNat ∧ Row wr (fun x => lo ≤ x ∧ x < w.heap.size) (w.heap.size + 1) v o.length o ad ∧ Box4 wr w.heap.size (.string f.1) (.int .i64 f.2.1) (.slice pf f.2.2.1.length pfc) (.slice tf f.2.2.2.length tfc) ∧ Below w.heap.size w wr) (fun _ _ i _ => fs.length - (intOf i).toNat)
  case atStart =>
    have hro := World.ownsRow_made (w.alloc (.cells #[.string f.1, .int .i64 f.2.1, .slice pf f.2.2.1.length pfc, .slice tf f.2.2.2.length tfc] 33)) #[] 0 (base := w.heap.size + 1) (by simp) (by unfold maxLen; omega) (e := 33) (size := 4) (by simp)
    refine ⟨0, _, [], false, fun _ => ((none, 0), (none, 0)), Nat.zero_le _, rfl, rfl, rfl, PutsL.start _ _, by simp, ⟨by simpa [flatF] using hro, fun _ h => absurd h (Nat.not_lt_zero _), fun _ h => absurd h (Nat.not_lt_zero _), fun _ h => absurd h (Nat.not_lt_zero _), fun _ h => absurd h (Nat.not_lt_zero _)⟩, (Box4.new w _ _ _ _ _).alloc _, ((Below.refl _ _).alloc (Nat.le_refl _) _).alloc (by simp) _⟩
  case round =>
    obtain ⟨j, v, o, q, ad, hj, rfl, rfl, rfl, hP, hol, hro, hbox, hbel⟩ := hrel
    have HR := Lib.hid hro
    have HBX := Lib.hid hbox
    have HB := Lib.hid hbel
    have hsz : w.heap.size < wr.heap.size := hbox.lt
    have HV : Hid (∀ x, v.ownBlock = some x → w.heap.size + 1 ≤ x) := fun x hx => (hro.row.lt x hx).1
    have hol' : o.length ≤ j + 1 := by cases q <;> simp at hol <;> omega
    have FPr := Lib.hid (FP.out.below hbel)
    have FTr := Lib.hid (FT.out.below hbel)
    obtain ⟨x0, x1, x2, x3⟩ := hbox
    by_cases hlt : j < fs.length
    · obtain ⟨b, off, pa, pc, ta, tc, rfl, hblo, hb, hc1, hc2, hc3, hc4, hpp, htt, hpl2, htl2⟩ := HP.out j hlt
      rw [← hbel.cell (p := ⟨b, _, none⟩) hb] at hc1 hc2 hc3 hc4
      have hst := hP.step hlt
      have PL := Lib.hid (low_from (pts_low hpp) hpl2)
      have TL := Lib.hid (low_from (tags_low htt) htl2)
      have D1 := Lib.hid (hpp.below hbel)
      have D2 := Lib.hid (htt.below hbel)
      clear hro hbel hP hpp htt
      have hblt : b < wr.heap.size := by omega
      have nbw : ¬ b = w.heap.size := by omega
      by_cases he : fid fs j = f.1
      · have hk : kf (fg fs j) = kf f := kf_eq.2 he
        have e2 := bytes_beq (fid fs j) f.1
        rw [decide_eq_true he] at e2
        have e1 : Op.bytesLess (fid fs j).toList f.1.toList = false := less_not (by show ¬ kf (fg fs j) < kf f; rw [hk]; exact List.lt_irrefl _)
        have hle : kf f ≤ kf (fg fs j) := by rw [hk]; exact List.le_refl _
        cases q
        · replace hol : o.length ≤ j := hol
          have HS : Hid (PutsL fs f (j + 1) (o ++ [f]) true) := by simpa [Hid, hle, hk] using hst
          clear hst he hle hk
          go_wp2
          go_quiet (fail)
          have Bq : Below wr.heap.size wr (wr.drewN nq) := below_drewN (Below.refl _ _) nq
          have zq : (wr.drewN nq).heap.size = wr.heap.size := rfl
          generalize wr.drewN nq = W1 at *
          replace HR := Lib.hid (HR.out.below Bq)
          replace HBX := Lib.hid (HBX.out.later Bq)
          replace HB := Lib.hid (HB.out.trans (Bq.mono HB.out.size))
          replace FPr := Lib.hid (FPr.out.below Bq)
          replace FTr := Lib.hid (FTr.out.below Bq)
          replace D1 := Lib.hid (D1.out.below Bq)
          replace D2 := Lib.hid (D2.out.below Bq)
          replace hc1 := cell_later Bq hc1
          replace hc2 := cell_later Bq hc2
          replace hc3 := cell_later Bq hc3
          replace hc4 := cell_later Bq hc4
          replace x0 := cell_later Bq x0
          replace x1 := cell_later Bq x1
          replace x2 := cell_later Bq x2
          replace x3 := cell_later Bq x3
          replace hsz : w.heap.size < W1.heap.size := by omega
          replace hblt : b < W1.heap.size := by omega
          clear Bq zq
          have ROW := Lib.hid HR.out.row
          go_wp2_with (at_builtin; refine wpList_append_lies _ (by rfl) _ _ _ (by rfl) (w.heap.size + 1) 33 i0 _ 4 72 Tryz.underlying23 HI.out HZ0.out HZ1.out HZ2.out rfl (by omega) (v) (o.length) (flatF (o) ad (o.length)) (by rfl) (ROW.out.alloc _) ⟨W1.heap.size, 0, none⟩ 1 1 (cellsF f ((pf, pfc), (tf, tfc))) (by rfl) (by rfl) (World.news_of_block (cs := #[.string f.1, .int .i64 f.2.1, .slice pf f.2.2.1.length pfc, .slice tf f.2.2.2.length tfc]) (t := 33) (fr := (0, 0)) (heap_alloc_new W1 _)) (by simp [Value.oneCell', cellsF]) (by omega) (by unfold maxLen; omega) (by omega) (by simp; omega) (W1.heap.size + 1) (by simp) ?_; intro gg1 cap1 wa1 hown1 hgrow1 hat1 hlt1; clear ROW; have vw : (v).ownBlock ≠ some w.heap.size := (fun e => by have := HV.out _ e; omega); replace HR : Hid (Row wa1 (fun x => lo ≤ x ∧ x < w.heap.size) (w.heap.size + 1) (Value.slice (some ⟨gg1, 0, none⟩) (o.length + 1) cap1) (o ++ [f]).length (o ++ [f]) (plSet ad (o.length) ((pf, pfc), (tf, tfc)))) := HR.out.snoc FPr.out (PF.out.imp (fun h => h) fun q x hx => ⟨q x hx, by have := q x hx; omega, fun e => by have h1 := HV.out x e; have h2 := q x hx; omega⟩) FTr.out (TF.out.imp (fun h => h) fun q x hx => ⟨q x hx, by have := q x hx; omega, fun e => by have h1 := HV.out x e; have h2 := q x hx; omega⟩) (by simpa using hown1) hgrow1 hat1; replace HBX := Lib.hid (BoxF.grown HBX.out hgrow1 vw); replace HB : Hid (Below w.heap.size w wa1) := (HB.out.alloc HB.out.size _).grown hgrow1 (by simp; omega) (fun x hx => by have := HV.out x hx; omega); have vb : (v).ownBlock ≠ some b := (fun e => by have := HV.out b e; omega); replace hc1 := HGF_cell hgrow1 hblt hc1 vb; replace hc2 := HGF_cell hgrow1 hblt hc2 vb; replace hc3 := HGF_cell hgrow1 hblt hc3 vb; replace hc4 := HGF_cell hgrow1 hblt hc4 vb; replace x0 := HGF_cell hgrow1 hsz x0 vw; replace x1 := HGF_cell hgrow1 hsz x1 vw; replace x2 := HGF_cell hgrow1 hsz x2 vw; replace x3 := HGF_cell hgrow1 hsz x3 vw; replace D1 := Lib.hid (PtsKeep D1.out hgrow1 (PL.out.imp (fun h => h) fun q x hx e => by have h1 := q x hx; have h2 := HV.out x e; omega)); replace D2 := Lib.hid (TagsKeep D2.out hgrow1 (TL.out.imp (fun h => h) fun q x hx e => by have h1 := q x hx; have h2 := HV.out x e; omega)); replace FPr := Lib.hid (PtsKeep FPr.out hgrow1 (PF.out.imp (fun h => h) fun q x hx e => by have h1 := q x hx; have h2 := HV.out x e; omega)); replace FTr := Lib.hid (TagsKeep FTr.out hgrow1 (TF.out.imp (fun h => h) fun q x hx e => by have h1 := q x hx; have h2 := HV.out x e; omega)); have hszA : W1.heap.size < wa1.heap.size := (by have h := hgrow1.size; simp at h; omega); replace hsz : w.heap.size < wa1.heap.size := (by omega); replace hblt : b < wa1.heap.size := (by omega); replace HV : Hid (∀ x, (Value.slice (some ⟨gg1, 0, none⟩) (o.length + 1) cap1).ownBlock = some x → w.heap.size + 1 ≤ x) := (fun x e => (hown1.lt x e).1); clear vb; clear hown1 hgrow1 hat1 vw)
          go_wp2
          go_quiet (fail)
          have Bq : Below wa1.heap.size wa1 (wa1.drewN nq) := below_drewN (Below.refl _ _) nq
          have zq : (wa1.drewN nq).heap.size = wa1.heap.size := rfl
          generalize wa1.drewN nq = W2 at *
          replace HR := Lib.hid (HR.out.below Bq)
          replace HBX := Lib.hid (HBX.out.later Bq)
          replace HB := Lib.hid (HB.out.trans (Bq.mono HB.out.size))
          replace FPr := Lib.hid (FPr.out.below Bq)
          replace FTr := Lib.hid (FTr.out.below Bq)
          replace D1 := Lib.hid (D1.out.below Bq)
          replace D2 := Lib.hid (D2.out.below Bq)
          replace hc1 := cell_later Bq hc1
          replace hc2 := cell_later Bq hc2
          replace hc3 := cell_later Bq hc3
          replace hc4 := cell_later Bq hc4
          replace x0 := cell_later Bq x0
          replace x1 := cell_later Bq x1
          replace x2 := cell_later Bq x2
          replace x3 := cell_later Bq x3
          replace hsz : w.heap.size < W2.heap.size := by omega
          replace hblt : b < W2.heap.size := by omega
          clear Bq zq
          go_wp2
          go_roundw
          case rel => exact ⟨j + 1, _, o ++ [f], _, _, by omega, by go_num, rfl, rfl, HS.out, by simp; omega, HR.out, HBX.out, HB.out⟩
          case measure => simp [intOf]; omega
        · have HS : Hid (PutsL fs f (j + 1) o true) := by simpa [Hid, hk] using hst
          clear hst he hle hk
          go_wp2
          go_quiet (fail)
          have Bq : Below wr.heap.size wr (wr.drewN nq) := below_drewN (Below.refl _ _) nq
          have zq : (wr.drewN nq).heap.size = wr.heap.size := rfl
          generalize wr.drewN nq = W1 at *
          replace HR := Lib.hid (HR.out.below Bq)
          replace HBX := Lib.hid (HBX.out.later Bq)
          replace HB := Lib.hid (HB.out.trans (Bq.mono HB.out.size))
          replace FPr := Lib.hid (FPr.out.below Bq)
          replace FTr := Lib.hid (FTr.out.below Bq)
          replace D1 := Lib.hid (D1.out.below Bq)
          replace D2 := Lib.hid (D2.out.below Bq)
          replace hc1 := cell_later Bq hc1
          replace hc2 := cell_later Bq hc2
          replace hc3 := cell_later Bq hc3
          replace hc4 := cell_later Bq hc4
          replace x0 := cell_later Bq x0
          replace x1 := cell_later Bq x1
          replace x2 := cell_later Bq x2
          replace x3 := cell_later Bq x3
          replace hsz : w.heap.size < W1.heap.size := by omega
          replace hblt : b < W1.heap.size := by omega
          clear Bq zq
          go_wp2
          go_quiet (fail)
          have Bq : Below W1.heap.size W1 (W1.drewN nq) := below_drewN (Below.refl _ _) nq
          have zq : (W1.drewN nq).heap.size = W1.heap.size := rfl
          generalize W1.drewN nq = W2 at *
          replace HR := Lib.hid (HR.out.below Bq)
          replace HBX := Lib.hid (HBX.out.later Bq)
          replace HB := Lib.hid (HB.out.trans (Bq.mono HB.out.size))
          replace FPr := Lib.hid (FPr.out.below Bq)
          replace FTr := Lib.hid (FTr.out.below Bq)
          replace D1 := Lib.hid (D1.out.below Bq)
          replace D2 := Lib.hid (D2.out.below Bq)
          replace hc1 := cell_later Bq hc1
          replace hc2 := cell_later Bq hc2
          replace hc3 := cell_later Bq hc3
          replace hc4 := cell_later Bq hc4
          replace x0 := cell_later Bq x0
          replace x1 := cell_later Bq x1
          replace x2 := cell_later Bq x2
          replace x3 := cell_later Bq x3
          replace hsz : w.heap.size < W2.heap.size := by omega
          replace hblt : b < W2.heap.size := by omega
          clear Bq zq
          go_wp2
          go_roundw
          case rel => exact ⟨j + 1, _, o, _, _, by omega, by go_num, rfl, rfl, HS.out, by simp at hol ⊢; omega, HR.out, HBX.out, HB.out⟩
          case measure => simp [intOf]; omega
      · have hk : ¬ kf (fg fs j) = kf f := fun h => he (kf_eq.1 h)
        have e2 := bytes_beq (fid fs j) f.1
        rw [decide_eq_false he] at e2
        by_cases hq : kf (fg fs j) < kf f
        · have e1 : Op.bytesLess (fid fs j).toList f.1.toList = true := less_of hq
          have hle : ¬ kf f ≤ kf (fg fs j) := fun h => h hq
          have HS : Hid (PutsL fs f (j + 1) (o ++ [fg fs j]) q) := by simpa [Hid, hle, hk] using hst
          clear hst he hle hq hk
          cases q
          · replace hol : o.length ≤ j := hol
            go_wp2
            go_quiet (fail)
            have Bq : Below wr.heap.size wr (wr.drewN nq) := below_drewN (Below.refl _ _) nq
            have zq : (wr.drewN nq).heap.size = wr.heap.size := rfl
            generalize wr.drewN nq = W1 at *
            replace HR := Lib.hid (HR.out.below Bq)
            replace HBX := Lib.hid (HBX.out.later Bq)
            replace HB := Lib.hid (HB.out.trans (Bq.mono HB.out.size))
            replace FPr := Lib.hid (FPr.out.below Bq)
            replace FTr := Lib.hid (FTr.out.below Bq)
            replace D1 := Lib.hid (D1.out.below Bq)
            replace D2 := Lib.hid (D2.out.below Bq)
            replace hc1 := cell_later Bq hc1
            replace hc2 := cell_later Bq hc2
            replace hc3 := cell_later Bq hc3
            replace hc4 := cell_later Bq hc4
            replace x0 := cell_later Bq x0
            replace x1 := cell_later Bq x1
            replace x2 := cell_later Bq x2
            replace x3 := cell_later Bq x3
            replace hsz : w.heap.size < W1.heap.size := by omega
            replace hblt : b < W1.heap.size := by omega
            clear Bq zq
            go_wp2
            go_quiet (fail)
            have Bq : Below W1.heap.size W1 (W1.drewN nq) := below_drewN (Below.refl _ _) nq
            have zq : (W1.drewN nq).heap.size = W1.heap.size := rfl
            generalize W1.drewN nq = W2 at *
            replace HR := Lib.hid (HR.out.below Bq)
            replace HBX := Lib.hid (HBX.out.later Bq)
            replace HB := Lib.hid (HB.out.trans (Bq.mono HB.out.size))
            replace FPr := Lib.hid (FPr.out.below Bq)
            replace FTr := Lib.hid (FTr.out.below Bq)
            replace D1 := Lib.hid (D1.out.below Bq)
            replace D2 := Lib.hid (D2.out.below Bq)
            replace hc1 := cell_later Bq hc1
            replace hc2 := cell_later Bq hc2
            replace hc3 := cell_later Bq hc3
            replace hc4 := cell_later Bq hc4
            replace x0 := cell_later Bq x0
            replace x1 := cell_later Bq x1
            replace x2 := cell_later Bq x2
            replace x3 := cell_later Bq x3
            replace hsz : w.heap.size < W2.heap.size := by omega
            replace hblt : b < W2.heap.size := by omega
            clear Bq zq
            have ROW := Lib.hid HR.out.row
            go_wp2_with (at_builtin; refine wpList_append_lies _ (by rfl) _ _ _ (by rfl) (w.heap.size + 1) 33 i0 _ 4 72 Tryz.underlying23 HI.out HZ0.out HZ1.out HZ2.out rfl (by omega) (v) (o.length) (flatF (o) ad (o.length)) (by rfl) (ROW.out.alloc _) ⟨W2.heap.size, 0, none⟩ 1 1 (cellsF (fg fs j) ((pa, pc), (ta, tc))) (by rfl) (by rfl) (World.news_of_block (cs := #[.string (fid fs j), .int .i64 (fkd fs j), .slice pa (fps fs j).length pc, .slice ta (fts fs j).length tc]) (t := 33) (fr := (0, 0)) (heap_alloc_new W2 _)) (by simp [Value.oneCell', cellsF]) (by omega) (by unfold maxLen; omega) (by omega) (by simp; omega) (W2.heap.size + 1) (by simp) ?_; intro gg2 cap2 wa2 hown2 hgrow2 hat2 hlt2; clear ROW; have vw : (v).ownBlock ≠ some w.heap.size := (fun e => by have := HV.out _ e; omega); replace HR : Hid (Row wa2 (fun x => lo ≤ x ∧ x < w.heap.size) (w.heap.size + 1) (Value.slice (some ⟨gg2, 0, none⟩) (o.length + 1) cap2) (o ++ [(fg fs j)]).length (o ++ [(fg fs j)]) (plSet ad (o.length) ((pa, pc), (ta, tc)))) := HR.out.snoc D1.out (PL.out.imp (fun h => h) fun q x hx => ⟨q x hx, by have := q x hx; omega, fun e => by have h1 := HV.out x e; have h2 := q x hx; omega⟩) D2.out (TL.out.imp (fun h => h) fun q x hx => ⟨q x hx, by have := q x hx; omega, fun e => by have h1 := HV.out x e; have h2 := q x hx; omega⟩) (by simpa using hown2) hgrow2 hat2; replace HBX := Lib.hid (BoxF.grown HBX.out hgrow2 vw); replace HB : Hid (Below w.heap.size w wa2) := (HB.out.alloc HB.out.size _).grown hgrow2 (by simp; omega) (fun x hx => by have := HV.out x hx; omega); clear hown2 hgrow2 hat2 vw)
            go_roundw
            case rel => exact ⟨j + 1, _, o ++ [fg fs j], _, _, by omega, by go_num, rfl, rfl, HS.out, by simp; omega, HR.out, HBX.out, HB.out⟩
            case measure => simp [intOf]; omega
          · replace hol : o.length ≤ j + 1 := hol
            go_wp2
            go_quiet (fail)
            have Bq : Below wr.heap.size wr (wr.drewN nq) := below_drewN (Below.refl _ _) nq
            have zq : (wr.drewN nq).heap.size = wr.heap.size := rfl
            generalize wr.drewN nq = W1 at *
            replace HR := Lib.hid (HR.out.below Bq)
            replace HBX := Lib.hid (HBX.out.later Bq)
            replace HB := Lib.hid (HB.out.trans (Bq.mono HB.out.size))
            replace FPr := Lib.hid (FPr.out.below Bq)
            replace FTr := Lib.hid (FTr.out.below Bq)
            replace D1 := Lib.hid (D1.out.below Bq)
            replace D2 := Lib.hid (D2.out.below Bq)
            replace hc1 := cell_later Bq hc1
            replace hc2 := cell_later Bq hc2
            replace hc3 := cell_later Bq hc3
            replace hc4 := cell_later Bq hc4
            replace x0 := cell_later Bq x0
            replace x1 := cell_later Bq x1
            replace x2 := cell_later Bq x2
            replace x3 := cell_later Bq x3
            replace hsz : w.heap.size < W1.heap.size := by omega
            replace hblt : b < W1.heap.size := by omega
            clear Bq zq
            go_wp2
            go_quiet (fail)
            have Bq : Below W1.heap.size W1 (W1.drewN nq) := below_drewN (Below.refl _ _) nq
            have zq : (W1.drewN nq).heap.size = W1.heap.size := rfl
            generalize W1.drewN nq = W2 at *
            replace HR := Lib.hid (HR.out.below Bq)
            replace HBX := Lib.hid (HBX.out.later Bq)
            replace HB := Lib.hid (HB.out.trans (Bq.mono HB.out.size))
            replace FPr := Lib.hid (FPr.out.below Bq)
            replace FTr := Lib.hid (FTr.out.below Bq)
            replace D1 := Lib.hid (D1.out.below Bq)
            replace D2 := Lib.hid (D2.out.below Bq)
            replace hc1 := cell_later Bq hc1
            replace hc2 := cell_later Bq hc2
            replace hc3 := cell_later Bq hc3
            replace hc4 := cell_later Bq hc4
            replace x0 := cell_later Bq x0
            replace x1 := cell_later Bq x1
            replace x2 := cell_later Bq x2
            replace x3 := cell_later Bq x3
            replace hsz : w.heap.size < W2.heap.size := by omega
            replace hblt : b < W2.heap.size := by omega
            clear Bq zq
            have ROW := Lib.hid HR.out.row
            go_wp2_with (at_builtin; refine wpList_append_lies _ (by rfl) _ _ _ (by rfl) (w.heap.size + 1) 33 i0 _ 4 72 Tryz.underlying23 HI.out HZ0.out HZ1.out HZ2.out rfl (by omega) (v) (o.length) (flatF (o) ad (o.length)) (by rfl) (ROW.out.alloc _) ⟨W2.heap.size, 0, none⟩ 1 1 (cellsF (fg fs j) ((pa, pc), (ta, tc))) (by rfl) (by rfl) (World.news_of_block (cs := #[.string (fid fs j), .int .i64 (fkd fs j), .slice pa (fps fs j).length pc, .slice ta (fts fs j).length tc]) (t := 33) (fr := (0, 0)) (heap_alloc_new W2 _)) (by simp [Value.oneCell', cellsF]) (by omega) (by unfold maxLen; omega) (by omega) (by simp; omega) (W2.heap.size + 1) (by simp) ?_; intro gg2 cap2 wa2 hown2 hgrow2 hat2 hlt2; clear ROW; have vw : (v).ownBlock ≠ some w.heap.size := (fun e => by have := HV.out _ e; omega); replace HR : Hid (Row wa2 (fun x => lo ≤ x ∧ x < w.heap.size) (w.heap.size + 1) (Value.slice (some ⟨gg2, 0, none⟩) (o.length + 1) cap2) (o ++ [(fg fs j)]).length (o ++ [(fg fs j)]) (plSet ad (o.length) ((pa, pc), (ta, tc)))) := HR.out.snoc D1.out (PL.out.imp (fun h => h) fun q x hx => ⟨q x hx, by have := q x hx; omega, fun e => by have h1 := HV.out x e; have h2 := q x hx; omega⟩) D2.out (TL.out.imp (fun h => h) fun q x hx => ⟨q x hx, by have := q x hx; omega, fun e => by have h1 := HV.out x e; have h2 := q x hx; omega⟩) (by simpa using hown2) hgrow2 hat2; replace HBX := Lib.hid (BoxF.grown HBX.out hgrow2 vw); replace HB : Hid (Below w.heap.size w wa2) := (HB.out.alloc HB.out.size _).grown hgrow2 (by simp; omega) (fun x hx => by have := HV.out x hx; omega); clear hown2 hgrow2 hat2 vw)
            go_roundw
            case rel => exact ⟨j + 1, _, o ++ [fg fs j], _, _, by omega, by go_num, rfl, rfl, HS.out, by simp; omega, HR.out, HBX.out, HB.out⟩
            case measure => simp [intOf]; omega
        · have e1 : Op.bytesLess (fid fs j).toList f.1.toList = false := less_not hq
          have hle : kf f ≤ kf (fg fs j) := hq
          cases q
          · replace hol : o.length ≤ j := hol
            have HS : Hid (PutsL fs f (j + 1) (o ++ [f] ++ [fg fs j]) true) := by simpa [Hid, hle, hk] using hst
            clear hst he hle hq hk
            go_wp2
            go_quiet (fail)
            have Bq : Below wr.heap.size wr (wr.drewN nq) := below_drewN (Below.refl _ _) nq
            have zq : (wr.drewN nq).heap.size = wr.heap.size := rfl
            generalize wr.drewN nq = W1 at *
            replace HR := Lib.hid (HR.out.below Bq)
            replace HBX := Lib.hid (HBX.out.later Bq)
            replace HB := Lib.hid (HB.out.trans (Bq.mono HB.out.size))
            replace FPr := Lib.hid (FPr.out.below Bq)
            replace FTr := Lib.hid (FTr.out.below Bq)
            replace D1 := Lib.hid (D1.out.below Bq)
            replace D2 := Lib.hid (D2.out.below Bq)
            replace hc1 := cell_later Bq hc1
            replace hc2 := cell_later Bq hc2
            replace hc3 := cell_later Bq hc3
            replace hc4 := cell_later Bq hc4
            replace x0 := cell_later Bq x0
            replace x1 := cell_later Bq x1
            replace x2 := cell_later Bq x2
            replace x3 := cell_later Bq x3
            replace hsz : w.heap.size < W1.heap.size := by omega
            replace hblt : b < W1.heap.size := by omega
            clear Bq zq
            have ROW := Lib.hid HR.out.row
            go_wp2_with (at_builtin; refine wpList_append_lies _ (by rfl) _ _ _ (by rfl) (w.heap.size + 1) 33 i0 _ 4 72 Tryz.underlying23 HI.out HZ0.out HZ1.out HZ2.out rfl (by omega) (v) (o.length) (flatF (o) ad (o.length)) (by rfl) (ROW.out.alloc _) ⟨W1.heap.size, 0, none⟩ 1 1 (cellsF f ((pf, pfc), (tf, tfc))) (by rfl) (by rfl) (World.news_of_block (cs := #[.string f.1, .int .i64 f.2.1, .slice pf f.2.2.1.length pfc, .slice tf f.2.2.2.length tfc]) (t := 33) (fr := (0, 0)) (heap_alloc_new W1 _)) (by simp [Value.oneCell', cellsF]) (by omega) (by unfold maxLen; omega) (by omega) (by simp; omega) (W1.heap.size + 1) (by simp) ?_; intro gg1 cap1 wa1 hown1 hgrow1 hat1 hlt1; clear ROW; have vw : (v).ownBlock ≠ some w.heap.size := (fun e => by have := HV.out _ e; omega); replace HR : Hid (Row wa1 (fun x => lo ≤ x ∧ x < w.heap.size) (w.heap.size + 1) (Value.slice (some ⟨gg1, 0, none⟩) (o.length + 1) cap1) (o ++ [f]).length (o ++ [f]) (plSet ad (o.length) ((pf, pfc), (tf, tfc)))) := HR.out.snoc FPr.out (PF.out.imp (fun h => h) fun q x hx => ⟨q x hx, by have := q x hx; omega, fun e => by have h1 := HV.out x e; have h2 := q x hx; omega⟩) FTr.out (TF.out.imp (fun h => h) fun q x hx => ⟨q x hx, by have := q x hx; omega, fun e => by have h1 := HV.out x e; have h2 := q x hx; omega⟩) (by simpa using hown1) hgrow1 hat1; replace HBX := Lib.hid (BoxF.grown HBX.out hgrow1 vw); replace HB : Hid (Below w.heap.size w wa1) := (HB.out.alloc HB.out.size _).grown hgrow1 (by simp; omega) (fun x hx => by have := HV.out x hx; omega); have vb : (v).ownBlock ≠ some b := (fun e => by have := HV.out b e; omega); replace hc1 := HGF_cell hgrow1 hblt hc1 vb; replace hc2 := HGF_cell hgrow1 hblt hc2 vb; replace hc3 := HGF_cell hgrow1 hblt hc3 vb; replace hc4 := HGF_cell hgrow1 hblt hc4 vb; replace x0 := HGF_cell hgrow1 hsz x0 vw; replace x1 := HGF_cell hgrow1 hsz x1 vw; replace x2 := HGF_cell hgrow1 hsz x2 vw; replace x3 := HGF_cell hgrow1 hsz x3 vw; replace D1 := Lib.hid (PtsKeep D1.out hgrow1 (PL.out.imp (fun h => h) fun q x hx e => by have h1 := q x hx; have h2 := HV.out x e; omega)); replace D2 := Lib.hid (TagsKeep D2.out hgrow1 (TL.out.imp (fun h => h) fun q x hx e => by have h1 := q x hx; have h2 := HV.out x e; omega)); replace FPr := Lib.hid (PtsKeep FPr.out hgrow1 (PF.out.imp (fun h => h) fun q x hx e => by have h1 := q x hx; have h2 := HV.out x e; omega)); replace FTr := Lib.hid (TagsKeep FTr.out hgrow1 (TF.out.imp (fun h => h) fun q x hx e => by have h1 := q x hx; have h2 := HV.out x e; omega)); have hszA : W1.heap.size < wa1.heap.size := (by have h := hgrow1.size; simp at h; omega); replace hsz : w.heap.size < wa1.heap.size := (by omega); replace hblt : b < wa1.heap.size := (by omega); replace HV : Hid (∀ x, (Value.slice (some ⟨gg1, 0, none⟩) (o.length + 1) cap1).ownBlock = some x → w.heap.size + 1 ≤ x) := (fun x e => (hown1.lt x e).1); clear vb; clear hown1 hgrow1 hat1 vw)
            go_wp2
            go_quiet (fail)
            have Bq : Below wa1.heap.size wa1 (wa1.drewN nq) := below_drewN (Below.refl _ _) nq
            have zq : (wa1.drewN nq).heap.size = wa1.heap.size := rfl
            generalize wa1.drewN nq = W2 at *
            replace HR := Lib.hid (HR.out.below Bq)
            replace HBX := Lib.hid (HBX.out.later Bq)
            replace HB := Lib.hid (HB.out.trans (Bq.mono HB.out.size))
            replace FPr := Lib.hid (FPr.out.below Bq)
            replace FTr := Lib.hid (FTr.out.below Bq)
            replace D1 := Lib.hid (D1.out.below Bq)
            replace D2 := Lib.hid (D2.out.below Bq)
            replace hc1 := cell_later Bq hc1
            replace hc2 := cell_later Bq hc2
            replace hc3 := cell_later Bq hc3
            replace hc4 := cell_later Bq hc4
            replace x0 := cell_later Bq x0
            replace x1 := cell_later Bq x1
            replace x2 := cell_later Bq x2
            replace x3 := cell_later Bq x3
            replace hsz : w.heap.size < W2.heap.size := by omega
            replace hblt : b < W2.heap.size := by omega
            clear Bq zq
            have hROW := HR.out.row
            rw [show (o ++ [f]).length = o.length + 1 by simp] at hROW
            have ROW := Lib.hid hROW
            clear hROW
            go_wp2_with (at_builtin; refine wpList_append_lies _ (by rfl) _ _ _ (by rfl) (w.heap.size + 1) 33 i0 _ 4 72 Tryz.underlying23 HI.out HZ0.out HZ1.out HZ2.out rfl (by omega) (Value.slice (some ⟨gg1, 0, none⟩) (o.length + 1) cap1) (o.length + 1) (flatF ((o ++ [f])) (plSet ad (o.length) ((pf, pfc), (tf, tfc))) (o.length + 1)) (by rfl) (ROW.out.alloc _) ⟨W2.heap.size, 0, none⟩ 1 1 (cellsF (fg fs j) ((pa, pc), (ta, tc))) (by rfl) (by rfl) (World.news_of_block (cs := #[.string (fid fs j), .int .i64 (fkd fs j), .slice pa (fps fs j).length pc, .slice ta (fts fs j).length tc]) (t := 33) (fr := (0, 0)) (heap_alloc_new W2 _)) (by simp [Value.oneCell', cellsF]) (by omega) (by unfold maxLen; omega) (by omega) (by simp; omega) (W2.heap.size + 1) (by simp) ?_; intro gg2 cap2 wa2 hown2 hgrow2 hat2 hlt2; clear ROW; have vw : (Value.slice (some ⟨gg1, 0, none⟩) (o.length + 1) cap1).ownBlock ≠ some w.heap.size := (fun e => by have := HV.out _ e; omega); replace HR : Hid (Row wa2 (fun x => lo ≤ x ∧ x < w.heap.size) (w.heap.size + 1) (Value.slice (some ⟨gg2, 0, none⟩) ((o ++ [f]).length + 1) cap2) ((o ++ [f]) ++ [(fg fs j)]).length ((o ++ [f]) ++ [(fg fs j)]) (plSet (plSet ad (o.length) ((pf, pfc), (tf, tfc))) ((o ++ [f]).length) ((pa, pc), (ta, tc)))) := HR.out.snoc D1.out (PL.out.imp (fun h => h) fun q x hx => ⟨q x hx, by have := q x hx; omega, fun e => by have h1 := HV.out x e; have h2 := q x hx; omega⟩) D2.out (TL.out.imp (fun h => h) fun q x hx => ⟨q x hx, by have := q x hx; omega, fun e => by have h1 := HV.out x e; have h2 := q x hx; omega⟩) (by simpa using hown2) hgrow2 hat2; replace HBX := Lib.hid (BoxF.grown HBX.out hgrow2 vw); replace HB : Hid (Below w.heap.size w wa2) := (HB.out.alloc HB.out.size _).grown hgrow2 (by simp; omega) (fun x hx => by have := HV.out x hx; omega); clear hown2 hgrow2 hat2 vw)
            go_roundw
            case rel => exact ⟨j + 1, _, o ++ [f] ++ [fg fs j], _, _, by omega, by go_num, rfl, by simp, HS.out, by simp; omega, HR.out, HBX.out, HB.out⟩
            case measure => simp [intOf]; omega
          · replace hol : o.length ≤ j + 1 := hol
            have HS : Hid (PutsL fs f (j + 1) (o ++ [fg fs j]) true) := by simpa [Hid, hk] using hst
            clear hst he hle hq hk
            go_wp2
            go_quiet (fail)
            have Bq : Below wr.heap.size wr (wr.drewN nq) := below_drewN (Below.refl _ _) nq
            have zq : (wr.drewN nq).heap.size = wr.heap.size := rfl
            generalize wr.drewN nq = W1 at *
            replace HR := Lib.hid (HR.out.below Bq)
            replace HBX := Lib.hid (HBX.out.later Bq)
            replace HB := Lib.hid (HB.out.trans (Bq.mono HB.out.size))
            replace FPr := Lib.hid (FPr.out.below Bq)
            replace FTr := Lib.hid (FTr.out.below Bq)
            replace D1 := Lib.hid (D1.out.below Bq)
            replace D2 := Lib.hid (D2.out.below Bq)
            replace hc1 := cell_later Bq hc1
            replace hc2 := cell_later Bq hc2
            replace hc3 := cell_later Bq hc3
            replace hc4 := cell_later Bq hc4
            replace x0 := cell_later Bq x0
            replace x1 := cell_later Bq x1
            replace x2 := cell_later Bq x2
            replace x3 := cell_later Bq x3
            replace hsz : w.heap.size < W1.heap.size := by omega
            replace hblt : b < W1.heap.size := by omega
            clear Bq zq
            go_wp2
            go_quiet (fail)
            have Bq : Below W1.heap.size W1 (W1.drewN nq) := below_drewN (Below.refl _ _) nq
            have zq : (W1.drewN nq).heap.size = W1.heap.size := rfl
            generalize W1.drewN nq = W2 at *
            replace HR := Lib.hid (HR.out.below Bq)
            replace HBX := Lib.hid (HBX.out.later Bq)
            replace HB := Lib.hid (HB.out.trans (Bq.mono HB.out.size))
            replace FPr := Lib.hid (FPr.out.below Bq)
            replace FTr := Lib.hid (FTr.out.below Bq)
            replace D1 := Lib.hid (D1.out.below Bq)
            replace D2 := Lib.hid (D2.out.below Bq)
            replace hc1 := cell_later Bq hc1
            replace hc2 := cell_later Bq hc2
            replace hc3 := cell_later Bq hc3
            replace hc4 := cell_later Bq hc4
            replace x0 := cell_later Bq x0
            replace x1 := cell_later Bq x1
            replace x2 := cell_later Bq x2
            replace x3 := cell_later Bq x3
            replace hsz : w.heap.size < W2.heap.size := by omega
            replace hblt : b < W2.heap.size := by omega
            clear Bq zq
            have ROW := Lib.hid HR.out.row
            go_wp2_with (at_builtin; refine wpList_append_lies _ (by rfl) _ _ _ (by rfl) (w.heap.size + 1) 33 i0 _ 4 72 Tryz.underlying23 HI.out HZ0.out HZ1.out HZ2.out rfl (by omega) (v) (o.length) (flatF (o) ad (o.length)) (by rfl) (ROW.out.alloc _) ⟨W2.heap.size, 0, none⟩ 1 1 (cellsF (fg fs j) ((pa, pc), (ta, tc))) (by rfl) (by rfl) (World.news_of_block (cs := #[.string (fid fs j), .int .i64 (fkd fs j), .slice pa (fps fs j).length pc, .slice ta (fts fs j).length tc]) (t := 33) (fr := (0, 0)) (heap_alloc_new W2 _)) (by simp [Value.oneCell', cellsF]) (by omega) (by unfold maxLen; omega) (by omega) (by simp; omega) (W2.heap.size + 1) (by simp) ?_; intro gg2 cap2 wa2 hown2 hgrow2 hat2 hlt2; clear ROW; have vw : (v).ownBlock ≠ some w.heap.size := (fun e => by have := HV.out _ e; omega); replace HR : Hid (Row wa2 (fun x => lo ≤ x ∧ x < w.heap.size) (w.heap.size + 1) (Value.slice (some ⟨gg2, 0, none⟩) (o.length + 1) cap2) (o ++ [(fg fs j)]).length (o ++ [(fg fs j)]) (plSet ad (o.length) ((pa, pc), (ta, tc)))) := HR.out.snoc D1.out (PL.out.imp (fun h => h) fun q x hx => ⟨q x hx, by have := q x hx; omega, fun e => by have h1 := HV.out x e; have h2 := q x hx; omega⟩) D2.out (TL.out.imp (fun h => h) fun q x hx => ⟨q x hx, by have := q x hx; omega, fun e => by have h1 := HV.out x e; have h2 := q x hx; omega⟩) (by simpa using hown2) hgrow2 hat2; replace HBX := Lib.hid (BoxF.grown HBX.out hgrow2 vw); replace HB : Hid (Below w.heap.size w wa2) := (HB.out.alloc HB.out.size _).grown hgrow2 (by simp; omega) (fun x hx => by have := HV.out x hx; omega); clear hown2 hgrow2 hat2 vw)
            go_roundw
            case rel => exact ⟨j + 1, _, o ++ [fg fs j], _, _, by omega, by go_num, rfl, rfl, HS.out, by simp; omega, HR.out, HBX.out, HB.out⟩
            case measure => simp [intOf]; omega
    · obtain rfl : j = fs.length := by omega
      have HD := Lib.hid hP.done
      clear hro hbel hP
      cases q
      · replace hol : o.length ≤ fs.length := hol
        have ROW := Lib.hid HR.out.row
        go_wp2_with (at_builtin; refine wpList_append_lies _ (by rfl) _ _ _ (by rfl) (w.heap.size + 1) 33 i0 _ 4 72 Tryz.underlying23 HI.out HZ0.out HZ1.out HZ2.out rfl (by omega) (v) (o.length) (flatF (o) ad (o.length)) (by rfl) (ROW.out.alloc _) ⟨wr.heap.size, 0, none⟩ 1 1 (cellsF f ((pf, pfc), (tf, tfc))) (by rfl) (by rfl) (World.news_of_block (cs := #[.string f.1, .int .i64 f.2.1, .slice pf f.2.2.1.length pfc, .slice tf f.2.2.2.length tfc]) (t := 33) (fr := (0, 0)) (heap_alloc_new wr _)) (by simp [Value.oneCell', cellsF]) (by omega) (by unfold maxLen; omega) (by omega) (by simp; omega) (wr.heap.size + 1) (by simp) ?_; intro gg1 cap1 wa1 hown1 hgrow1 hat1 hlt1; clear ROW; have vw : (v).ownBlock ≠ some w.heap.size := (fun e => by have := HV.out _ e; omega); replace HR : Hid (Row wa1 (fun x => lo ≤ x ∧ x < w.heap.size) (w.heap.size + 1) (Value.slice (some ⟨gg1, 0, none⟩) (o.length + 1) cap1) (o ++ [f]).length (o ++ [f]) (plSet ad (o.length) ((pf, pfc), (tf, tfc)))) := HR.out.snoc FPr.out (PF.out.imp (fun h => h) fun q x hx => ⟨q x hx, by have := q x hx; omega, fun e => by have h1 := HV.out x e; have h2 := q x hx; omega⟩) FTr.out (TF.out.imp (fun h => h) fun q x hx => ⟨q x hx, by have := q x hx; omega, fun e => by have h1 := HV.out x e; have h2 := q x hx; omega⟩) (by simpa using hown1) hgrow1 hat1; replace HBX := Lib.hid (BoxF.grown HBX.out hgrow1 vw); replace HB : Hid (Below w.heap.size w wa1) := (HB.out.alloc HB.out.size _).grown hgrow1 (by simp; omega) (fun x hx => by have := HV.out x hx; omega); clear hown1 hgrow1 hat1 vw)
        go_wp2
        go_ret
        have e : o ++ [f] = putL fs f := by simpa using HD.out
        have hr := HR.out
        rw [e] at hr
        first | exact ⟨⟨_, _, rfl, hr⟩, HB.out⟩ | exact ⟨⟨_, rfl, _, hr⟩, HB.out⟩
      · have e : o = putL fs f := by simpa using HD.out
        have hr := HR.out
        rw [e] at hr
        have HF := Lib.hid hr
        clear hr HR HV
        go_wp2
        go_ret
        first | exact ⟨⟨_, _, rfl, HF.out⟩, HB.out⟩ | exact ⟨⟨_, rfl, _, HF.out⟩, HB.out⟩
end Go.Proofs.YtdfadpejddhbkaaGreat

namespace Go.Proofs.YtdfadpejddhbkaaGreat
set_option linter.unusedVariables false
open Go.ChangeShapes Go.WideShapes Go.ChangeAt Go.RowKit Go.Deep

theorem featsLen_put {fs : List Ft} {t : Ft} {m : Int} (h : FeatsLen fs m) (ht : (t.1.size : Int) ≤ m ∧ (t.2.2.1.length : Int) ≤ m ∧ (t.2.2.2.length : Int) ≤ m ∧ TagsLen t.2.2.2 m) : FeatsLen (putL fs t) m := putL_lens h ht

theorem Turned.of_rd {w w' : World} {R : Nat} (h : w.grownBy w' (some R)) : Turned w w' (fun x => x = R) := Turned.of_grown h fun x hx => by simpa using hx.symm

/-- what drawing a list of things leaves: a row of its own -/
def SheetDrawn (w : World) (R : Nat) (a : Option Addr) (len cap : Nat) (p : Int) (n : Nat) (q : Int) (e : Ending) (w' : World) : Prop :=
  ∃ (v : Value) (fs : List Ft) (ad : Nat → Pl) (p' : Int), e = .returned v ∧ Row w' (fun x => w.heap.size ≤ x ∧ x < w'.heap.size) w.heap.size v fs.length fs ad ∧ fs.length ≤ n ∧ FeatsLen fs 8 ∧ Rd w' R a len cap p' ∧ p' ≤ p + q ∧ w.grownBy w' (some R)

theorem Row.wider {w : World} {P Q : Nat → Prop} {lo lo' : Nat} {v : Value} {k : Nat} {fs : List Ft} {ad : Nat → Pl} (h : Row w P lo v k fs ad) (hP : ∀ x, P x → Q x) (hl : lo' ≤ lo) : Row w Q lo' v k fs ad :=
  ⟨owns_base h.row hl, h.pts, h.tags, fun i hi => (h.prng i hi).imp (fun h => h) fun q x hx => ⟨hP x (q x hx).1, (q x hx).2⟩, fun i hi => (h.trng i hi).imp (fun h => h) fun q x hx => ⟨hP x (q x hx).1, (q x hx).2⟩⟩

theorem Row.turned {w w' : World} {P S : Nat → Prop} {lo : Nat} {v : Value} {k : Nat} {fs : List Ft} {ad : Nat → Pl} (h : Row w P lo v k fs ad) (ht : Turned w w' S) (hS : ∀ x, lo ≤ x → ¬ S x) (hP : ∀ x, P x → ¬ S x) : Row w' P lo v k fs ad := by
  refine ⟨?_, fun i hi => (h.pts i hi).turned0 ht ((h.prng i hi).imp (fun h => h) fun q x hx => hP x (q x hx).1), fun i hi => (h.tags i hi).turned0 ht ((h.trng i hi).imp (fun h => h) fun q x hx => hP x (q x hx).1), fun i hi => (h.prng i hi).imp (fun h => h) fun q x hx => ⟨(q x hx).1, Nat.lt_of_lt_of_le (q x hx).2.1 ht.size, (q x hx).2.2⟩, fun i hi => (h.trng i hi).imp (fun h => h) fun q x hx => ⟨(q x hx).1, Nat.lt_of_lt_of_le (q x hx).2.1 ht.size, (q x hx).2.2⟩⟩
  obtain ⟨h1, h2 | ⟨g, cap, cur, h3, h4, hg, h5⟩⟩ := h.row
  · exact ⟨h1, .inl h2⟩
  · exact ⟨h1, .inr ⟨g, cap, cur, h3, h4, (ht.block g (Array.getElem?_eq_some_iff.1 hg).1 (hS g h4)).trans hg, h5⟩⟩

theorem Row.feats {w : World} {lo k : Nat} {v : Value} {fs : List Ft} {ad : Nat → Pl} (h : Row w (fun x => lo ≤ x ∧ x < k) lo v fs.length fs ad) : ∃ a cap, v = .slice a fs.length cap ∧ FeatsFrom lo w a fs := h.from (Nat.le_refl _)

set_option maxRecDepth 100000 in
set_option maxHeartbeats 8000000 in
theorem l3Sheet_any (R : Nat) (a : Option Addr) (len cap : Nat) (p : Int) (w : World) (h : Rd w R a len cap p) (hp : p ≤ 60000) (hl : len ≤ 2000) :
    Calls Tryz.prog 123 #[.pointer (some ⟨R, 0, none⟩)] w (SheetDrawn w R a len cap p 4 300) := by
  have HR := Lib.hid h
  have hRlt := h.lt
  clear h
  go_enter Tryz.func123, Tryz.ntmps123
  go_wp2_with fail
  refine (pick_any _ _ _ _ _ _ _ (HR.out.alloc _) (by omega) hl (by omega) (by omega)).mono ?_
  rintro e w2 ⟨x, rfl, hx0, hx1, hr, hg, hs⟩
  obtain ⟨X, rfl⟩ : ∃ X : Nat, x = (X : Int) := ⟨x.toNat, by omega⟩
  have R2 := Lib.hid hr
  have G2 : Hid (w.grownBy w2 (some R)) := (World.grownBy_alloc w _ _).trans hg
  have O2 : Hid (Row w2 (fun x => w.heap.size ≤ x ∧ x < w2.heap.size) w.heap.size (.slice (some ⟨w.heap.size, 0, none⟩) 0 0) 0 [] (fun _ => ((none, 0), (none, 0)))) := ⟨World.ownsRow.kept (World.ownsRow_made w #[] 0 (Nat.le_refl _) (by unfold maxLen; omega) (by simp)) hg (.inr (by simp [Value.ownBlock]; omega)), fun _ h => absurd h (Nat.not_lt_zero _), fun _ h => absurd h (Nat.not_lt_zero _), fun _ h => absurd h (Nat.not_lt_zero _), fun _ h => absurd h (Nat.not_lt_zero _)⟩
  clear hr hg hs
  go_wp2
  go_loopw [3, 4] (fun s i wr => ∃ (m : Nat) (v : Value) (fs : List Ft) (ad : Nat → Pl) (q : Int), m ≤ 4 ∧ i = .int .i64 m ∧ v = s ∧ fs.length + m ≤ 4 ∧ FeatsLen fs 8 ∧ q ≤ p + 260 - 62 * (m : Int) ∧ Row wr (fun x => w.heap.size ≤ x ∧ x < wr.heap.size) w.heap.size v fs.length fs ad ∧ Rd wr R a len cap q ∧ w.grownBy wr (some R)) (fun _ i _ => (intOf i).toNat)
  case atStart => exact ⟨X, _, [], _, _, by omega, rfl, rfl, by simp; omega, fun i hi => absurd hi (Nat.not_lt_zero _), by omega, O2.out, R2.out, G2.out⟩
  case round =>
    clear O2 R2 G2
    obtain ⟨m, v, fs, ad, q, hm, rfl, rfl, hfm, hfl, hq, hrow, hrd, hgr⟩ := hrel
    have HW := Lib.hid hrow
    have HD := Lib.hid hrd
    have HG := Lib.hid hgr
    have FL := Lib.hid hfl
    have hsz := hgr.size
    clear hrd hgr hfl
    by_cases h0 : 0 < m
    · obtain ⟨sa, sc, rfl, hff⟩ := hrow.feats
      have FF := Lib.hid hff
      clear hff hrow
      go_wp2_with fail
      refine (l2Id_any R a len cap _ _ HD.out (by omega) hl).mono ?_
      rintro e w3 ⟨id, rfl, hids, hr3, hg3⟩
      have hz3 := hg3.size
      have FF3 := Lib.hid (FF.out.turned (Turned.of_rd hg3) (fun x hx _ e => by omega))
      have G3 : Hid (w.grownBy w3 (some R)) := HG.out.trans hg3
      have D3 := Lib.hid hr3
      clear hr3 hg3 FF HD
      go_wp2_with fail
      refine (l2Feat_any R a len cap _ id _ D3.out (by omega) hl hids).mono ?_
      rintro e w4 ⟨id4, k4, pa4, pc4, ps4, ta4, tc4, ts4, p4, rfl, hid4, hpt4, hpr4, hpl4, hown4, htl4, hts4, hr4, hp4, hg4, _⟩
      have hz4 := hg4.size
      have FF4 := Lib.hid (FF3.out.turned (Turned.of_rd hg4) (fun x hx _ e => by omega))
      have G4 : Hid (w.grownBy w4 (some R)) := G3.out.trans hg4
      have D4 := Lib.hid hr4
      have PT := Lib.hid hpt4
      have TT := Lib.hid (tags_of_own hown4)
      have TS := Lib.hid hts4
      have PR : Hid (ps4.length = 0 ∨ ∀ x, blk pa4 = some x → w.heap.size ≤ x) := .inr fun x hx => by have := (hpr4 x hx).1; omega
      have TR : Hid (ts4.length = 0 ∨ ∀ x, blk ta4 = some x → w.heap.size ≤ x) := by
        obtain ⟨a', c', e', _, _, h'⟩ := owned_tags hown4 rfl
        obtain ⟨rfl, rfl⟩ : ta4 = a' ∧ tc4 = c' := by simpa using e'
        exact .inr fun x hx => by have := (h' x hx).1; omega
      clear hpt4 hpr4 hown4 hts4 hr4 hg4 FF3 D3
      go_wp2_with fail
      refine (l3Put_row w.heap.size sa sc fs (id4, k4, ps4, ts4) pa4 ta4 pc4 tc4 _ FF4.out (by omega) PT.out TT.out PR.out TR.out).mono ?_
      rintro e w5 ⟨⟨v5, ad5, rfl, hrow5⟩, hb5⟩
      have hz5 := hb5.size
      have hpl := putL_len (id4, k4, ps4, ts4) fs
      have LL : Hid (FeatsLen (putL fs (id4, k4, ps4, ts4)) 8) := featsLen_put FL.out ⟨by show (id4.size : Int) ≤ 8; omega, by show (ps4.length : Int) ≤ 8; omega, by show (ts4.length : Int) ≤ 8; omega, TS.out⟩
      have RW : Hid (Row w5 (fun x => w.heap.size ≤ x ∧ x < w5.heap.size) w.heap.size v5 (putL fs (id4, k4, ps4, ts4)).length (putL fs (id4, k4, ps4, ts4)) ad5) := hrow5.wider (fun x hx => ⟨hx.1, by omega⟩) (by omega)
      have D5 : Hid (Rd w5 R a len cap p4) := D4.out.kept (r := none) (grown_low _ hb5) (by simp) (fun i hi => by obtain ⟨b, off, c, e, _⟩ := D4.out.bytes i hi; rw [e]; simp [blk])
      have G5 : Hid (w.grownBy w5 (some R)) := G4.out.trans (grown_low _ hb5)
      obtain ⟨n, rfl⟩ : ∃ n, m = n + 1 := ⟨m - 1, by omega⟩
      clear hrow5 hb5
      go_wp2
      go_roundw
      case rel => exact ⟨n, v5, _, ad5, p4, by omega, congrArg (Value.int .i64) (by omega), rfl, by omega, LL.out, by omega, RW.out, D5.out, G5.out⟩
      case measure => simp [intOf]
    · clear hrow
      go_wp2
      go_ret
      exact ⟨v, fs, ad, q, rfl, HW.out, by omega, FL.out, HD.out, by omega, HG.out⟩
end Go.Proofs.YtdfadpejddhbkaaGreat

namespace Go.Proofs.YtdfadpejddhbkaaGreat
set_option linter.unusedVariables false
open Go.ChangeShapes Go.WideShapes Go.ChangeAt Go.RowKit Go.Deep

/-- a thing that is being bent -/
structure BentLay (w : World) (R : Nat) (a : Option Addr) (len cap : Nat) (d : Nat) (id : ByteArray) (k : Int) (pa : Option Addr) (pc : Nat) (ps : List (Int × Int)) (v : Value) (ts : List Tg) (q : Int) (wr : World) : Prop where
  c0 : wr.cell? ⟨d, 0, none⟩ = some (.string id)
  c1 : wr.cell? ⟨d, 1, none⟩ = some (.int .i64 k)
  c2 : wr.cell? ⟨d, 2, none⟩ = some (.slice pa ps.length pc)
  c3 : wr.cell? ⟨d, 3, none⟩ = some v
  soft : ∀ i, wr.frozen? ⟨d, i, none⟩ = false
  r0 : wr.cell? ⟨w.heap.size, 0, none⟩ = some (.string ⟨#[]⟩)
  r1 : wr.cell? ⟨w.heap.size, 1, none⟩ = some (.int .i64 0)
  r2 : wr.cell? ⟨w.heap.size, 2, none⟩ = some (.slice none 0 0)
  r3 : wr.cell? ⟨w.heap.size, 3, none⟩ = some (.slice none 0 0)
  rs : ∀ i, wr.frozen? ⟨w.heap.size, i, none⟩ = false
  own : wr.ownsRow (w.heap.size + 1) 92 2 v ts.length (flatT ts)
  far : v.ownBlock ≠ some d
  pts : PtsAt wr pa ps
  prng : ∀ x, blk pa = some x → w.heap.size < x ∧ x ≠ d ∧ x < wr.heap.size
  rd : Rd wr R a len cap q
  grown : w.grownBy wr (some R)
  apart : ∀ x, blk pa = some x → v.ownBlock ≠ some x

/-- the reader goes on, or memory is made -/
theorem BentLay.read {w wr w' : World} {R : Nat} {a : Option Addr} {len cap d : Nat} {id : ByteArray} {k : Int} {pa : Option Addr} {pc : Nat} {ps : List (Int × Int)} {v : Value} {ts : List Tg} {q q' : Int} (h : BentLay w R a len cap d id k pa pc ps v ts q wr) (hg : wr.grownBy w' (some R)) (hr : Rd w' R a len cap q') (hRw : R < w.heap.size) (hd : w.heap.size < d) : BentLay w R a len cap d id k pa pc ps v ts q' w' := by
  have hdl : d < wr.heap.size := World.block_lt_of_cell? _ _ h.c0
  have hwl : w.heap.size < wr.heap.size := World.block_lt_of_cell? _ _ h.r0
  have nd : some d ≠ some R := by simp; omega
  have nw : some w.heap.size ≠ some R := by simp; omega
  exact ⟨(hg.cell_far _ hdl nd).trans h.c0, (hg.cell_far _ hdl nd).trans h.c1, (hg.cell_far _ hdl nd).trans h.c2, (hg.cell_far _ hdl nd).trans h.c3, fun i => (hg.frozen_far _ hdl nd).trans (h.soft i), (hg.cell_far _ hwl nw).trans h.r0, (hg.cell_far _ hwl nw).trans h.r1, (hg.cell_far _ hwl nw).trans h.r2, (hg.cell_far _ hwl nw).trans h.r3, fun i => (hg.frozen_far _ hwl nw).trans (h.rs i), World.ownsRow.kept h.own hg (.inr fun e => by have := (h.own.lt R e).1; omega), h.far, h.pts.kept hg (fun x hx e => by have := (h.prng x hx).1; simp at e; omega), fun x hx => ⟨(h.prng x hx).1, (h.prng x hx).2.1, Nat.lt_of_lt_of_le (h.prng x hx).2.2 hg.size⟩, hr, h.grown.trans hg, h.apart⟩

/-- a cell of the box is written -/
theorem BentLay.setD {w wr : World} {R : Nat} {a : Option Addr} {len cap d : Nat} {id : ByteArray} {k : Int} {pa : Option Addr} {pc : Nat} {ps : List (Int × Int)} {v : Value} {ts : List Tg} {q : Int} (h : BentLay w R a len cap d id k pa pc ps v ts q wr) (s : ByteArray) (hRw : R < w.heap.size) (hd : w.heap.size < d) (hcd : ∀ i, i < len → blk a ≠ some d) : BentLay w R a len cap d s k pa pc ps v ts q (wr.setCell ⟨d, 0, none⟩ (.string s)) := by
  have hg : wr.grownBy (wr.setCell ⟨d, 0, none⟩ (.string s)) (some d) := grown_set (World.grownBy.refl _ _) _ _
  exact ⟨World.cell?_setCell_same _ _ _ h.c0, (World.cell?_setCell_other _ _ _ _ (by simp)).trans h.c1, (World.cell?_setCell_other _ _ _ _ (by simp)).trans h.c2, (World.cell?_setCell_other _ _ _ _ (by simp)).trans h.c3, fun i => by rw [World.frozen?_setCell]; exact h.soft i, (World.cell?_setCell_other _ _ _ _ (by simp <;> omega)).trans h.r0, (World.cell?_setCell_other _ _ _ _ (by simp <;> omega)).trans h.r1, (World.cell?_setCell_other _ _ _ _ (by simp <;> omega)).trans h.r2, (World.cell?_setCell_other _ _ _ _ (by simp <;> omega)).trans h.r3, fun i => by rw [World.frozen?_setCell]; exact h.rs i, World.ownsRow.kept h.own hg (.inr h.far), h.far, h.pts.kept hg (fun x hx e => by have := (h.prng x hx).2.1; simp at e; omega), fun x hx => ⟨(h.prng x hx).1, (h.prng x hx).2.1, Nat.lt_of_lt_of_le (h.prng x hx).2.2 hg.size⟩, h.rd.kept hg (by simp; omega) hcd, grown_set_new h.grown (by omega), h.apart⟩

/-- another shape is put into the box -/
theorem BentLay.setS {w wr : World} {R : Nat} {a : Option Addr} {len cap d : Nat} {id : ByteArray} {k : Int} {pa : Option Addr} {pc : Nat} {ps : List (Int × Int)} {v : Value} {ts : List Tg} {q : Int} (h : BentLay w R a len cap d id k pa pc ps v ts q wr) (k2 : Int) (pa2 : Option Addr) (pc2 : Nat) (ps2 : List (Int × Int)) (hp2 : PtsAt wr pa2 ps2) (hr2 : ∀ x, blk pa2 = some x → w.heap.size < x ∧ x ≠ d ∧ x < wr.heap.size) (ha2 : ∀ x, blk pa2 = some x → v.ownBlock ≠ some x) (hRw : R < w.heap.size) (hd : w.heap.size < d) (hcd : ∀ i, i < len → blk a ≠ some d) : BentLay w R a len cap d id k2 pa2 pc2 ps2 v ts q ((wr.setCell ⟨d, 1, none⟩ (.int .i64 k2)).setCell ⟨d, 2, none⟩ (.slice pa2 ps2.length pc2)) := by
  have hg : wr.grownBy ((wr.setCell ⟨d, 1, none⟩ (.int .i64 k2)).setCell ⟨d, 2, none⟩ (.slice pa2 ps2.length pc2)) (some d) := grown_set (grown_set (World.grownBy.refl _ _) _ _) _ _
  have o1 : ∀ {o : Nat} {u : Value}, o ≠ 1 → o ≠ 2 → wr.cell? ⟨d, o, none⟩ = some u → ((wr.setCell ⟨d, 1, none⟩ (.int .i64 k2)).setCell ⟨d, 2, none⟩ (.slice pa2 ps2.length pc2)).cell? ⟨d, o, none⟩ = some u := fun h1 h2 hc => (World.cell?_setCell_other _ _ _ _ (by simp <;> omega)).trans ((World.cell?_setCell_other _ _ _ _ (by simp <;> omega)).trans hc)
  have hwl : w.heap.size < wr.heap.size := World.block_lt_of_cell? _ _ h.r0
  have nw : some w.heap.size ≠ some d := by simp; omega
  exact ⟨o1 (by omega) (by omega) h.c0, (World.cell?_setCell_other _ _ _ _ (by simp)).trans (World.cell?_setCell_same _ _ _ h.c1), World.cell?_setCell_same _ _ _ ((World.cell?_setCell_other _ _ _ _ (by simp)).trans h.c2), o1 (by omega) (by omega) h.c3, fun i => by rw [World.frozen?_setCell, World.frozen?_setCell]; exact h.soft i, (hg.cell_far _ hwl nw).trans h.r0, (hg.cell_far _ hwl nw).trans h.r1, (hg.cell_far _ hwl nw).trans h.r2, (hg.cell_far _ hwl nw).trans h.r3, fun i => (hg.frozen_far _ hwl nw).trans (h.rs i), World.ownsRow.kept h.own hg (.inr h.far), h.far, hp2.kept hg (fun x hx e => by have := (hr2 x hx).2.1; simp at e; omega), fun x hx => ⟨(hr2 x hx).1, (hr2 x hx).2.1, Nat.lt_of_lt_of_le (hr2 x hx).2.2 hg.size⟩, h.rd.kept hg (by simp; omega) hcd, grown_set_new (grown_set_new h.grown (by omega)) (by omega), ha2⟩

/-- other tags, appended, are put into the box -/
theorem BentLay.setT {w wr wa : World} {R : Nat} {a : Option Addr} {len cap d : Nat} {id : ByteArray} {k : Int} {pa : Option Addr} {pc : Nat} {ps : List (Int × Int)} {v v' : Value} {ts us : List Tg} {q : Int} {O : Obj} (h : BentLay w R a len cap d id k pa pc ps v ts q wr) (hg0 : (wr.alloc O).grownBy wa v.ownBlock) (ho : wa.ownsRow (w.heap.size + 1) 92 2 v' us.length (flatT us)) (hf : v'.ownBlock ≠ some d) (hap : ∀ x, blk pa = some x → v'.ownBlock ≠ some x) (hRw : R < w.heap.size) (hd : w.heap.size < d) (hcd : ∀ i, i < len → blk a ≠ some d) (hcv : ∀ i, i < len → blk a ≠ v.ownBlock) : BentLay w R a len cap d id k pa pc ps v' us q (wa.setCell ⟨d, 3, none⟩ v') := by
  have hdl : d < wr.heap.size := World.block_lt_of_cell? _ _ h.c0
  have hwl : w.heap.size < wr.heap.size := World.block_lt_of_cell? _ _ h.r0
  have hg1 : wr.grownBy wa v.ownBlock := (World.grownBy_alloc wr O _).trans hg0
  have vl : ∀ x, v.ownBlock = some x → w.heap.size + 1 ≤ x := fun x hx => (h.own.lt x hx).1
  have nd : some d ≠ v.ownBlock := fun e => h.far e.symm
  have nw : some w.heap.size ≠ v.ownBlock := fun e => by have := vl _ e.symm; omega
  have hg : wa.grownBy (wa.setCell ⟨d, 3, none⟩ v') (some d) := grown_set (World.grownBy.refl _ _) _ _
  have s : ∀ {o : Nat} {u : Value}, o ≠ 3 → wr.cell? ⟨d, o, none⟩ = some u → (wa.setCell ⟨d, 3, none⟩ v').cell? ⟨d, o, none⟩ = some u := fun h1 hc => (World.cell?_setCell_other _ _ _ _ (by simp <;> omega)).trans ((hg1.cell_far _ hdl nd).trans hc)
  have r : ∀ {o : Nat} {u : Value}, wr.cell? ⟨w.heap.size, o, none⟩ = some u → (wa.setCell ⟨d, 3, none⟩ v').cell? ⟨w.heap.size, o, none⟩ = some u := fun hc => (World.cell?_setCell_other _ _ _ _ (by simp <;> omega)).trans ((hg1.cell_far _ hwl nw).trans hc)
  refine ⟨s (by omega) h.c0, s (by omega) h.c1, s (by omega) h.c2, World.cell?_setCell_same _ _ _ ((hg1.cell_far _ hdl nd).trans h.c3), fun i => by rw [World.frozen?_setCell, hg1.frozen_far ⟨d, i, none⟩ hdl nd]; exact h.soft i, r h.r0, r h.r1, r h.r2, r h.r3, fun i => by rw [World.frozen?_setCell, hg1.frozen_far ⟨w.heap.size, i, none⟩ hwl nw]; exact h.rs i, World.ownsRow.kept ho hg (.inr hf), hf, (h.pts.kept hg1 (fun x hx e => h.apart x hx e)).kept hg (fun x hx e => by have := (h.prng x hx).2.1; simp at e; omega), fun x hx => ⟨(h.prng x hx).1, (h.prng x hx).2.1, ?_⟩, (h.rd.kept hg1 (fun e => by have := vl R e; omega) hcv).kept hg (by simp; omega) hcd, ?_, hap⟩
  · have h1 := (h.prng x hx).2.2
    have h2 := hg1.size
    have h3 := hg.size
    omega
  · exact grown_set_new ⟨hg1.os.trans h.grown.os, hg1.tape.trans h.grown.tape, hg1.output.trans h.grown.output, Nat.le_trans h.grown.size hg1.size, fun i hi hne => (hg1.block i (Nat.lt_of_lt_of_le hi h.grown.size) (fun e => by have := vl i e.symm; omega)).trans (h.grown.block i hi hne)⟩ (by omega)

/-- what is answered -/
theorem BentLay.fin {w wr : World} {R : Nat} {a : Option Addr} {len cap d : Nat} {id : ByteArray} {k : Int} {pa : Option Addr} {pc : Nat} {ps : List (Int × Int)} {ta : Option Addr} {tc : Nat} {ts : List Tg} {p q : Int} {x0 x1 x2 x3 : Value} (h : BentLay w R a len cap d id k pa pc ps (.slice ta ts.length tc) ts q wr) (hid : id.size ≤ 8) (hps : ps.length ≤ 7) (hts : ts.length ≤ 4) (htl : TagsLen ts 8) (hq : q ≤ p + 130) (hRw : R < w.heap.size) (hcd : ∀ i, i < len → blk a ≠ some w.heap.size) :
    FeatDrawn w R a len cap p 7 4 130 (.returned (.agg #[.string id, .int .i64 k, .slice pa ps.length pc, .slice ta ts.length tc])) ((((wr.setCell ⟨w.heap.size, 0, none⟩ x0).setCell ⟨w.heap.size, 1, none⟩ x1).setCell ⟨w.heap.size, 2, none⟩ x2).setCell ⟨w.heap.size, 3, none⟩ x3) := by
  have hg : wr.grownBy ((((wr.setCell ⟨w.heap.size, 0, none⟩ x0).setCell ⟨w.heap.size, 1, none⟩ x1).setCell ⟨w.heap.size, 2, none⟩ x2).setCell ⟨w.heap.size, 3, none⟩ x3) (some w.heap.size) := grown_set (grown_set (grown_set (grown_set (World.grownBy.refl _ _) _ _) _ _) _ _) _ _
  refine ⟨id, k, _, _, ps, ta, tc, ts, q, rfl, hid, h.pts.kept hg (fun x hx e => by have := (h.prng x hx).1; simp at e; omega), fun x hx => ?_, hps, owns_base (World.ownsRow.kept h.own hg (.inr fun e => by have := (h.own.lt _ e).1; omega)) (by omega), hts, htl, h.rd.kept hg (by simp; omega) hcd, hq, grown_set_new (grown_set_new (grown_set_new (grown_set_new h.grown (Nat.le_refl _)) (Nat.le_refl _)) (Nat.le_refl _)) (Nat.le_refl _), h.apart⟩
  have h1 := (h.prng x hx)
  have h2 := hg.size
  omega

theorem tagsLen_snoc {ts : List Tg} {t : Tg} {m : Int} (h : TagsLen ts m) (ht : (t.1.size : Int) ≤ m ∧ (t.2.size : Int) ≤ m) : TagsLen (ts ++ [t]) m := by
  intro i hi
  by_cases e : i < ts.length
  · have := h i e
    simpa [tk, tv, List.getElem?_append_left e] using this
  · have : i = ts.length := by simp at hi; omega
    subst this
    simpa [tk, tv] using ht

theorem texts_two (w : World) (x y : ByteArray) (t : TypeId) (hx : x.size ≤ 8) (hy : y.size ≤ 8) : TextsAt ((w.alloc (.cells #[.string x, .string y] t)).drew) w.heap.size 2 := by
  intro i hi
  have : i = 0 ∨ i = 1 := by omega
  rcases this with rfl | rfl
  · exact ⟨x, by show (w.alloc (.cells #[.string x, .string y] t)).cell? _ = _; simp [go_sem], hx⟩
  · exact ⟨y, by show (w.alloc (.cells #[.string x, .string y] t)).cell? _ = _; simp [go_sem], hy⟩

theorem HGT {wr wa : World} {O : Obj} {x : Option Nat} {b o : Nat} {v : Value} (hg : (wr.alloc O).grownBy wa x) (hlt : b < wr.heap.size) (hc : wr.cell? ⟨b, o, none⟩ = some v) : x ≠ some b → wa.cell? ⟨b, o, none⟩ = some v := fun hne =>
  (hg.cell_far ⟨b, o, none⟩ (by simp; omega) (Ne.symm hne)).trans ((World.cell?_of_block (w := wr) (Below.heap_alloc _ _ _ hlt)).trans hc)

set_option maxRecDepth 100000 in
set_option maxHeartbeats 8000000 in
theorem l2Bent_any (R : Nat) (a : Option Addr) (len cap : Nat) (p : Int) (w : World) (h : Rd w R a len cap p) (hp : p ≤ 60000) (hl : len ≤ 2000) :
    Calls Tryz.prog 72 #[.pointer (some ⟨R, 0, none⟩)] w (FeatDrawn w R a len cap p 7 4 130) := by
  have HR := Lib.hid h
  have hRlt := h.lt
  have hcode : Hid (∀ c, w.heap.size ≤ c → ∀ i, i < len → blk a ≠ some c) := fun c hc => h.codeLt hc
  obtain ⟨i0, hi, hz0, hz1, hz2⟩ := info_parts infoT
  have HI := Lib.hid hi
  have HZ0 := Lib.hid hz0
  have HZ1 := Lib.hid hz1
  have HZ2 := Lib.hid hz2
  clear h hi hz0 hz1 hz2
  go_enter Tryz.func72, Tryz.ntmps72
  go_wp2_with fail
  refine (l2Id_any _ _ _ _ _ _ (HR.out.alloc _) (by omega) hl).mono ?_
  rintro e u1 ⟨id0, rfl, hids, hr1, hg1⟩
  have nw : some w.heap.size ≠ some R := by simp; omega
  obtain ⟨g0, g1, g2, g3⟩ := Box4.new w (.string ⟨#[]⟩) (.int .i64 0) (.slice none 0 0) (.slice none 0 0) 33
  have D1 := Lib.hid hr1
  have s1 := hg1.size
  simp only [World.size_alloc] at s1
  have HG1 := Lib.hid hg1
  clear hr1 hg1
  go_wp2_with fail
  refine (l2Feat_any R a len cap _ id0 _ D1.out (by omega) hl hids).mono ?_
  rintro e w1 ⟨id, k, pa, pc, ps, ta, tc, ts, p1, rfl, hid, hpt, hpr, hpl, hown, htl, hts, hr, hp1, hg, hap⟩
  have hgw : (w.alloc (.cells #[.string ⟨#[]⟩, .int .i64 0, .slice none 0 0, .slice none 0 0] 33)).grownBy w1 (some R) := HG1.out.trans hg
  have s2 := hg.size
  have z1 : w.heap.size < w1.heap.size := by omega
  have L0 : Hid (BentLay w R a len cap w1.heap.size id k pa pc ps (.slice ta ts.length tc) ts p1 (w1.alloc (.cells #[.string id, .int .i64 k, .slice pa ps.length pc, .slice ta ts.length tc] 33))) := by
    have hb : Below w1.heap.size w1 (w1.alloc (.cells #[.string id, .int .i64 k, .slice pa ps.length pc, .slice ta ts.length tc] 33)) := (Below.refl _ _).alloc (Nat.le_refl _) _
    obtain ⟨q0, q1, q2, q3⟩ := Box4.new w1 (.string id) (.int .i64 k) (.slice pa ps.length pc) (.slice ta ts.length tc) 33
    refine ⟨q0, q1, q2, q3, fun i => by simp [go_sem], cell_later hb ((hgw.cell_far _ (by simp) nw).trans g0), cell_later hb ((hgw.cell_far _ (by simp) nw).trans g1), cell_later hb ((hgw.cell_far _ (by simp) nw).trans g2), cell_later hb ((hgw.cell_far _ (by simp) nw).trans g3), fun i => ?_, owns_base (ownsRow_below hown hb) (by omega), fun e => by have := (hown.lt _ e).2; omega, hpt.below hb, fun x hx => ?_, hr.alloc _, ((World.grownBy_alloc w _ _).trans hgw).trans (grown_low _ hb), hap⟩
    · rw [hb.frozen (p := ⟨w.heap.size, i, none⟩) z1, hgw.frozen_far ⟨w.heap.size, i, none⟩ (by simp) nw]
      simp [go_sem]
    · have := hpr x hx
      simp
      omega
  have TL := Lib.hid hts
  clear hown hr hg g0 g1 g2 g3 hpt hpr hts hgw HG1 D1 hap
  go_upto_region 2 with (fail)
  generalize (w1.alloc (.cells #[.string id, .int .i64 k, .slice pa ps.length pc, .slice ta ts.length tc] 33)) = W at *
  generalize hd : w1.heap.size = d at *
  have CD := Lib.hid (hcode.out d (by omega))
  go_wp2_with fail
  refine (pick_any _ _ _ _ _ _ _ L0.out.rd (by omega) hl (by omega) (by omega)).mono ?_
  rintro e w2 ⟨x, rfl, hx0, hx1, hr, hg, hs⟩
  have L1 := Lib.hid (L0.out.read hg hr hRlt z1)
  obtain ⟨X, rfl⟩ : ∃ X : Nat, x = (X : Int) := ⟨x.toNat, by omega⟩
  clear hr hg hs L0
  have FIN : Hid (∀ (wr : World) (id : ByteArray) (k : Int) (pa : Option Addr) (pc : Nat) (ps : List (Int × Int)) (ta : Option Addr) (tc : Nat) (ts : List Tg) (q : Int) (x0 x1 x2 x3 : Value), BentLay w R a len cap d id k pa pc ps (.slice ta ts.length tc) ts q wr → id.size ≤ 8 → ps.length ≤ 7 → ts.length ≤ 4 → TagsLen ts 8 → q ≤ p + 130 → FeatDrawn w R a len cap p 7 4 130 (.returned (.agg #[.string id, .int .i64 k, .slice pa ps.length pc, .slice ta ts.length tc])) ((((wr.setCell ⟨w.heap.size, 0, none⟩ x0).setCell ⟨w.heap.size, 1, none⟩ x1).setCell ⟨w.heap.size, 2, none⟩ x2).setCell ⟨w.heap.size, 3, none⟩ x3)) := fun wr id k pa pc ps ta tc ts q x0 x1 x2 x3 hL h1 h2 h3 h4 h5 => hL.fin h1 h2 h3 h4 h5 hRlt (hcode.out _ (Nat.le_refl _))
  have FIN2 : Hid (∀ (wr : World) (id : ByteArray) (k : Int) (pa : Option Addr) (pc : Nat) (ps : List (Int × Int)) (v : Value) (ta : Option Addr) (tc : Nat) (ts : List Tg) (q : Int) (x0 x1 x2 x3 : Value), BentLay w R a len cap d id k pa pc ps v ts q wr → v = .slice ta ts.length tc → id.size ≤ 8 → ps.length ≤ 7 → ts.length ≤ 4 → TagsLen ts 8 → q ≤ p + 130 → FeatDrawn w R a len cap p 7 4 130 (.returned (.agg #[.string id, .int .i64 k, .slice pa ps.length pc, v])) ((((wr.setCell ⟨w.heap.size, 0, none⟩ x0).setCell ⟨w.heap.size, 1, none⟩ x1).setCell ⟨w.heap.size, 2, none⟩ x2).setCell ⟨w.heap.size, 3, none⟩ x3)) := fun wr id k pa pc ps v ta tc ts q x0 x1 x2 x3 hL hv h1 h2 h3 h4 h5 => by subst hv; exact FIN.out _ _ _ _ _ _ _ _ _ _ _ _ _ _ hL h1 h2 h3 h4 h5
  have nd1 : ¬ d = w.heap.size := by omega
  have nd2 : ¬ w.heap.size = d := by omega
  by_cases e0 : X = 0
  · subst e0
    go_wp2_with fail
    refine (of_any R w2.heap.size 3 a len cap _ _ (L1.out.rd.alloc _) (by omega) hl (fun i hi => ?_) (by have := L1.out.rd.lt; omega) (by omega) (by omega)).mono ?_
    · have : i = 0 ∨ i = 1 ∨ i = 2 := by omega
      rcases this with rfl | rfl | rfl
      · exact ⟨⟨#[]⟩, by simp [go_sem], by decide⟩
      · exact ⟨⟨#[65]⟩, by simp [go_sem], by decide⟩
      · exact ⟨⟨#[97, 98, 99, 100, 101, 102, 103]⟩, by simp [go_sem], by decide⟩
    rintro e w3 ⟨s, rfl, hss, hr, hg⟩
    have L2 := Lib.hid (L1.out.read ((World.grownBy_alloc w2 _ _).trans hg) hr hRlt z1)
    have L3 := Lib.hid (L2.out.setD s hRlt z1 CD.out)
    clear hr hg L1
    have c0 := L2.out.c0
    have c1 := L2.out.c1
    have c2 := L2.out.c2
    have c3 := L2.out.c3
    have r0 := L2.out.r0
    have r1 := L2.out.r1
    have r2 := L2.out.r2
    have r3 := L2.out.r3
    have t0 := L2.out.rs 0
    have t1 := L2.out.rs 1
    have t2 := L2.out.rs 2
    have t3 := L2.out.rs 3
    have s0 := L2.out.soft 0
    have s1 := L2.out.soft 1
    have s2 := L2.out.soft 2
    have s3 := L2.out.soft 3
    go_wp2
    refine bodyPost_ret (v := .agg #[.string s, .int .i64 k, .slice pa ps.length pc, .slice ta ts.length tc]) (by simp [results, Tryz.results72, go_sem, r0, r1, r2, r3]) rfl ?_
    exact FIN.out _ _ _ _ _ _ _ _ _ _ _ _ _ _ L3.out hss (by omega) (by omega) TL.out (by omega)
  by_cases e1 : X = 1
  · subst e1
    go_wp2_with fail
    refine (l1Bent_any R a len cap _ _ L1.out.rd (by omega) hl).mono ?_
    rintro e w3 ⟨k3, g3, c3', ps3, p3, rfl, hpt3, _, ⟨hg3a, hg3b⟩, hps3, hr, hp3, hg⟩
    have zd : d < w2.heap.size := World.block_lt_of_cell? _ _ L1.out.c0
    have L2 := Lib.hid (L1.out.read hg hr hRlt z1)
    have L3 := Lib.hid (L2.out.setS k3 (some ⟨g3, 0, none⟩) c3' ps3 hpt3 (fun x hx => by simp [blk] at hx; omega) (fun x hx e => by have := (L1.out.own.lt x e).2; simp [blk] at hx; omega) hRlt z1 CD.out)
    clear hr hg L1 hpt3
    have c0 := L2.out.c0
    have c1 := L2.out.c1
    have c2 := L2.out.c2
    have c3 := L2.out.c3
    have r0 := L2.out.r0
    have r1 := L2.out.r1
    have r2 := L2.out.r2
    have r3 := L2.out.r3
    have t0 := L2.out.rs 0
    have t1 := L2.out.rs 1
    have t2 := L2.out.rs 2
    have t3 := L2.out.rs 3
    have s0 := L2.out.soft 0
    have s1 := L2.out.soft 1
    have s2 := L2.out.soft 2
    have s3 := L2.out.soft 3
    go_wp2
    refine bodyPost_ret (v := .agg #[.string id, .int .i64 k3, .slice (some ⟨g3, 0, none⟩) ps3.length c3', .slice ta ts.length tc]) (by simp [results, Tryz.results72, go_sem, r0, r1, r2, r3]) rfl ?_
    exact FIN.out _ _ _ _ _ _ _ _ _ _ _ _ _ _ L3.out hid (by omega) (by omega) TL.out (by omega)
  by_cases e2 : X = 2
  · subst e2
    obtain ⟨us, hus0⟩ : ∃ us : List Tg, us = ts ++ [((⟨#[97]⟩ : ByteArray), (⟨#[98]⟩ : ByteArray))] := ⟨_, rfl⟩
    have hul : us.length = ts.length + 1 := by rw [hus0]; simp
    have TU : Hid (TagsLen us 8) := by rw [hus0]; exact tagsLen_snoc TL.out (by decide)
    have hus := Lib.hid hus0
    clear hus0
    have zd : d < w2.heap.size := World.block_lt_of_cell? _ _ L1.out.c0
    have c0 := L1.out.c0
    have c1 := L1.out.c1
    have c2 := L1.out.c2
    have c3 := L1.out.c3
    have r0 := L1.out.r0
    have r1 := L1.out.r1
    have r2 := L1.out.r2
    have r3 := L1.out.r3
    have t0 := L1.out.rs 0
    have t1 := L1.out.rs 1
    have t2 := L1.out.rs 2
    have t3 := L1.out.rs 3
    have s0 := L1.out.soft 0
    have s1 := L1.out.soft 1
    have s2 := L1.out.soft 2
    have s3 := L1.out.soft 3
    go_wp2_with (at_builtin; refine wpList_append_lies _ (by rfl) _ _ _ (by rfl) (w.heap.size + 1) 92 i0 _ 2 32 Tryz.underlying31 HI.out HZ0.out HZ1.out HZ2.out rfl (by omega) (.slice ta ts.length tc) ts.length (flatT ts) (by rfl) (L1.out.own.alloc _) ⟨w2.heap.size, 0, none⟩ 1 1 [.string ⟨#[97]⟩, .string ⟨#[98]⟩] (by rfl) (by rfl) (World.news_of_block (cs := #[.string ⟨#[97]⟩, .string ⟨#[98]⟩]) (t := 92) (fr := (0, 0)) (heap_alloc_new w2 _)) (by simp [Value.oneCell']) (by omega) (by unfold maxLen; omega) (by omega) (by simp; omega) (w2.heap.size + 1) (by simp) ?_; intro gg cap' wa hown1 hgrow hat hlt'; have ho2 : wa.ownsRow (w.heap.size + 1) 92 2 (.slice (some ⟨gg, 0, none⟩) (ts.length + 1) cap') us.length (flatT us) := (by rw [hul, hus.out, flatT_snoc]; simpa using hown1); have hfd : gg ≠ d := (by rcases hat with h | h; (exact fun e => L1.out.far (h.trans (by rw [e]))); omega); have hfx : ∀ x, blk pa = some x → gg ≠ x := (fun x hx => by rcases hat with h | h; (exact fun e => L1.out.apart x hx (h.trans (by rw [e]))); (have := (L1.out.prng x hx).2.2; omega)); have L3 := Lib.hid (L1.out.setT (v' := .slice (some ⟨gg, 0, none⟩) (ts.length + 1) cap') (us := us) hgrow ho2 (fun e => hfd (by simpa [Value.ownBlock] using e)) (fun x hx e => hfx x hx (by simpa [Value.ownBlock] using e)) hRlt z1 CD.out (fun i hi e => by obtain ⟨b, off, c, e2, hlt2, _⟩ := HR.out.bytes i hi; rw [e2] at e; have := (L1.out.own.lt b e.symm).1; omega)); have gd' : wa.cell? ⟨d, 0, none⟩ = some (.string id) := HGT hgrow zd c0 L1.out.far; have gd1 : wa.cell? ⟨d, 1, none⟩ = some (.int .i64 k) := HGT hgrow zd c1 L1.out.far; have gd2 : wa.cell? ⟨d, 2, none⟩ = some (.slice pa ps.length pc) := HGT hgrow zd c2 L1.out.far; have gd3 : wa.cell? ⟨d, 3, none⟩ = some (.slice ta ts.length tc) := HGT hgrow zd c3 L1.out.far; have gs3 : wa.frozen? ⟨d, 3, none⟩ = false := (hgrow.frozen_far ⟨d, 3, none⟩ (by simp; omega) (fun e => L1.out.far e.symm)).trans ((Below.frozen (p := ⟨d, 3, none⟩) ((Below.refl w2.heap.size w2).alloc (Nat.le_refl _) _) zd).trans s3); have m0 := L3.out.r0; have m1 := L3.out.r1; have m2 := L3.out.r2; have m3 := L3.out.r3; have n0 := L3.out.rs 0; have n1 := L3.out.rs 1; have n2 := L3.out.rs 2; have n3 := L3.out.rs 3)
    have q0 := L3.out.r0
    have q1 := L3.out.r1
    have q2 := L3.out.r2
    have q3 := L3.out.r3
    refine bodyPost_ret (v := .agg #[.string id, .int .i64 k, .slice pa ps.length pc, .slice (some ⟨gg, 0, none⟩) (ts.length + 1) cap']) (by simp [results, Tryz.results72, go_sem, q0, q1, q2, q3]) rfl ?_
    exact FIN2.out _ _ _ _ _ _ _ (some ⟨gg, 0, none⟩) cap' us _ _ _ _ _ L3.out (by rw [hul]) hid (by omega) (by omega) TU.out (by omega)
  by_cases e3 : X = 3
  · subst e3
    have zd : d < w2.heap.size := World.block_lt_of_cell? _ _ L1.out.c0
    have hRw2 := L1.out.rd.lt
    have c3 := L1.out.c3
    have s3 := L1.out.soft 3
    go_upto_region 10 with (fail)
    go_region_law (first
      | (refine step_append_lies _ (by rfl) _ _ _ (by rfl) (w.heap.size + 1) 92 i0 _ 2 32 Tryz.underlying31 HI.out HZ0.out HZ1.out HZ2.out rfl (by omega) (.slice ta ts.length tc) ts.length (flatT ts) (by rfl) (L2.out.own.alloc _) ⟨w3.heap.size, 0, none⟩ 1 1 [.string ⟨#[122, 122]⟩, .string s] (by rfl) (by rfl) (World.news_of_block (cs := #[.string ⟨#[122, 122]⟩, .string s]) (t := 92) (fr := (0, 0)) (heap_alloc_new w3 _)) (by simp [Value.oneCell']) (by omega) (by unfold maxLen; omega) (by omega) (by simp; omega) (w3.heap.size + 1) (by simp) ?_; intro gg cap' wa hown1 hgrow hat hlt'; obtain ⟨us, hus⟩ : ∃ us : List Tg, us = ts ++ [((⟨#[122, 122]⟩ : ByteArray), s)] := ⟨_, rfl⟩; have hul : us.length = ts.length + 1 := (by rw [hus]; simp); have TU : Hid (TagsLen us 8) := (by rw [hus]; exact tagsLen_snoc TL.out ⟨by show ((2 : Nat) : Int) ≤ 8; omega, by show (s.size : Int) ≤ 8; omega⟩); have ho2 : wa.ownsRow (w.heap.size + 1) 92 2 (.slice (some ⟨gg, 0, none⟩) (ts.length + 1) cap') us.length (flatT us) := (by rw [hul, hus, flatT_snoc]; simpa using hown1); have hfd : gg ≠ d := (by rcases hat with h | h; (exact fun e => L2.out.far (h.trans (by rw [e]))); omega); have hfx : ∀ x, blk pa = some x → gg ≠ x := (fun x hx => by rcases hat with h | h; (exact fun e => L2.out.apart x hx (h.trans (by rw [e]))); (have := (L2.out.prng x hx).2.2; omega)); have L3 := Lib.hid (L2.out.setT (v' := .slice (some ⟨gg, 0, none⟩) (ts.length + 1) cap') (us := us) hgrow ho2 (fun e => hfd (by simpa [Value.ownBlock] using e)) (fun x hx e => hfx x hx (by simpa [Value.ownBlock] using e)) hRlt z1 CD.out (fun i hi e => by obtain ⟨b, off, c, e2, hlt2, _⟩ := HR.out.bytes i hi; rw [e2] at e; have := (L2.out.own.lt b e.symm).1; omega)); have gd3 : wa.cell? ⟨d, 3, none⟩ = some (.slice ta ts.length tc) := HGT hgrow zd3 c3k L2.out.far; have gs3 : wa.frozen? ⟨d, 3, none⟩ = false := (hgrow.frozen_far ⟨d, 3, none⟩ (by simp; omega) (fun e => L2.out.far e.symm)).trans ((Below.frozen (p := ⟨d, 3, none⟩) ((Below.refl w3.heap.size w3).alloc (Nat.le_refl _) _) zd3).trans s3k); clear hus)
      | (go_simp; go_at_call 126; refine (of_any R w2.heap.size 2 a len cap _ _ ((L1.out.rd.alloc _).drew) (by omega) hl (texts_two w2 _ _ _ (by decide) (by decide)) (by omega) (by omega) (by omega)).mono ?_; rintro e w3 ⟨s, rfl, hss, hr3, hg3⟩; have L2 := Lib.hid (L1.out.read ((World.grownBy_alloc w2 (.cells #[.string ⟨#[]⟩, .string ⟨#[66]⟩] 9) (some R)).trans (show World.grownBy (w2.alloc _) w3 (some R) from ⟨hg3.os, hg3.tape, hg3.output, hg3.size, hg3.block⟩)) hr3 hRlt z1); have c3k := L2.out.c3; have s3k := L2.out.soft 3; have zd3 : d < w3.heap.size := World.block_lt_of_cell? _ _ c3k; clear hr3 hg3; dsimp only))
    all_goals
      have k0 := L3.out.c0
      have k1 := L3.out.c1
      have k2 := L3.out.c2
      have k3 := L3.out.c3
      have m0 := L3.out.r0
      have m1 := L3.out.r1
      have m2 := L3.out.r2
      have m3 := L3.out.r3
      have n0 := L3.out.rs 0
      have n1 := L3.out.rs 1
      have n2 := L3.out.rs 2
      have n3 := L3.out.rs 3
      clear gd3 gs3 c3k s3k c3 s3
      generalize wa.setCell ⟨d, 3, none⟩ (.slice (some ⟨gg, 0, none⟩) (ts.length + 1) cap') = wb at *
      go_wp2
      refine bodyPost_ret (v := .agg #[.string id, .int .i64 k, .slice pa ps.length pc, .slice (some ⟨gg, 0, none⟩) (ts.length + 1) cap']) (by simp [results, Tryz.results72, go_sem, m0, m1, m2, m3]) rfl ?_
      exact FIN2.out _ _ _ _ _ _ _ (some ⟨gg, 0, none⟩) cap' us _ _ _ _ _ L3.out (by rw [hul]) hid (by omega) (by omega) TU.out (by omega)
  have b0 : ((X : Int) == 0) = false := by simp; omega
  have b1 : ((X : Int) == 1) = false := by simp; omega
  have b2 : ((X : Int) == 2) = false := by simp; omega
  have b3 : ((X : Int) == 3) = false := by simp; omega
  have c0 := L1.out.c0
  have c1 := L1.out.c1
  have c2 := L1.out.c2
  have c3 := L1.out.c3
  have r0 := L1.out.r0
  have r1 := L1.out.r1
  have r2 := L1.out.r2
  have r3 := L1.out.r3
  have t0 := L1.out.rs 0
  have t1 := L1.out.rs 1
  have t2 := L1.out.rs 2
  have t3 := L1.out.rs 3
  go_wp2
  refine bodyPost_ret (v := .agg #[.string id, .int .i64 k, .slice pa ps.length pc, .slice ta ts.length tc]) (by simp [results, Tryz.results72, go_sem, r0, r1, r2, r3]) rfl ?_
  exact FIN.out _ _ _ _ _ _ _ _ _ _ _ _ _ _ L1.out hid (by omega) (by omega) TL.out (by omega)
end Go.Proofs.YtdfadpejddhbkaaGreat

namespace Go.Proofs.YtdfadpejddhbkaaGreat
set_option linter.unusedVariables false
open Go.ChangeShapes Go.WideShapes Go.ChangeAt Go.RowKit Go.Deep

/-- what drawing a list of things leaves -/
def ListDrawn (w : World) (R : Nat) (a : Option Addr) (len cap : Nat) (p : Int) (n : Nat) (q : Int) (e : Ending) (w' : World) : Prop :=
  ∃ (sa : Option Addr) (sc : Nat) (fs : List Ft) (p' : Int), e = .returned (.slice sa fs.length sc) ∧ FeatsFrom w.heap.size w' sa fs ∧ fs.length ≤ n ∧ FeatsLen fs 8 ∧ Rd w' R a len cap p' ∧ p' ≤ p + q ∧ w.grownBy w' (some R)

theorem featsLen_snoc {fs : List Ft} {t : Ft} {m : Int} (h : FeatsLen fs m) (ht : (t.1.size : Int) ≤ m ∧ (t.2.2.1.length : Int) ≤ m ∧ (t.2.2.2.length : Int) ≤ m ∧ TagsLen t.2.2.2 m) : FeatsLen (fs ++ [t]) m := featsLen_iff.2 fun f hf => by
  rcases List.mem_append.1 hf with h' | h'
  · exact featsLen_iff.1 h f h'
  · obtain rfl : f = t := by simpa using h'
    exact ht
theorem featsLen_app {fs gs : List Ft} {m : Int} (h : FeatsLen fs m) (h' : FeatsLen gs m) : FeatsLen (fs ++ gs) m := featsLen_iff.2 fun f hf => by
  rcases List.mem_append.1 hf with h1 | h1
  · exact featsLen_iff.1 h f h1
  · exact featsLen_iff.1 h' f h1

/-- an append is no turn of the reader -/
theorem grown_own {w wr wa : World} {R lo : Nat} {O : Obj} {v : Value} (h : w.grownBy wr (some R)) (hg : (wr.alloc O).grownBy wa v.ownBlock) (hv : ∀ x, v.ownBlock = some x → w.heap.size ≤ x) : w.grownBy wa (some R) :=
  ⟨hg.os.trans h.os, hg.tape.trans h.tape, hg.output.trans h.output, Nat.le_trans h.size (by have := hg.size; simp at this; omega), fun i hi hne => (hg.block i (by have := h.size; simp; omega) (fun e => by have := hv i e.symm; omega)).trans ((Below.heap_alloc _ _ _ (by have := h.size; omega)).trans (h.block i hi hne))⟩

theorem run_append00 {P : Program} (w : World) (t ty e : TypeId) (i : TypeInfo) (ht : P.underlying t = some (.slice e)) (hi : P.info? e = some i) (a : Option Addr) (c : Nat) :
    (Builtin.append_ #[t, t] ty #[.slice a 0 c, .slice a 0 c]).run P w = .ok (.slice a 0 c) w := by
  cases a with
  | none => simp [Builtin.append_, run_underlying ht, sizeOf, typeInfo, hi, Builtin.lenOf, Builtin.firstCells]
  | some x => simp [Builtin.append_, run_underlying ht, sizeOf, typeInfo, hi, Builtin.lenOf, Builtin.firstCells, loadCells, loadCellsFrom, storeCells]

/-- the places of two lists, one behind the other -/
def plApp (n : Nat) (ad bd : Nat → Pl) (i : Nat) : Pl := if i < n then ad i else bd (i - n)

theorem fg_app_lt {fs gs : List Ft} {i : Nat} (h : i < fs.length) : fg (fs ++ gs) i = fg fs i := by simp [fg, List.getD, h, show i < fs.length + gs.length by omega]
theorem fg_app_ge {fs gs : List Ft} {i : Nat} (h : fs.length ≤ i) : fg (fs ++ gs) i = fg gs (i - fs.length) := by simp [fg, List.getD, List.getElem?_append_right h]

theorem flatF_app1 (fs gs : List Ft) (ad bd : Nat → Pl) : ∀ k, k ≤ fs.length → flatF (fs ++ gs) (plApp fs.length ad bd) k = flatF fs ad k
  | 0, _ => rfl
  | k + 1, h => by
    rw [flatF_succ, flatF_succ, flatF_app1 fs gs ad bd k (by omega), fg_app_lt (by omega)]
    unfold plApp
    rw [if_pos (by omega)]
theorem flatF_app2 (fs gs : List Ft) (ad bd : Nat → Pl) : ∀ k, flatF (fs ++ gs) (plApp fs.length ad bd) (fs.length + k) = flatF fs ad fs.length ++ flatF gs bd k
  | 0 => by rw [Nat.add_zero, flatF_app1 fs gs ad bd _ (Nat.le_refl _)]; simp [flatF]
  | k + 1 => by
    rw [← Nat.add_assoc, flatF_succ, flatF_succ, flatF_app2 fs gs ad bd k, fg_app_ge (by omega), List.append_assoc]
    unfold plApp
    rw [if_neg (by omega), show fs.length + k - fs.length = k by omega]

theorem flatF_cells (fs : List Ft) (ad : Nat → Pl) (k : Nat) : ∀ u ∈ flatF fs ad k, u.oneCell' = true := by
  intro u hu
  unfold flatF at hu
  obtain ⟨i, _, hi⟩ := List.mem_flatMap.1 hu
  simp [cellsF] at hi
  rcases hi with rfl | rfl | rfl | rfl <;> rfl

/-- a row appended to itself -/
theorem Row.twice {wr wa : World} {P : Nat → Prop} {lo : Nat} {v : Value} {fs : List Ft} {ad : Nat → Pl} {gg cap' : Nat} (h : Row wr P lo v fs.length fs ad) (hrow : wa.ownsRow lo 33 4 (.slice (some ⟨gg, 0, none⟩) (fs.length + fs.length) cap') (fs.length + fs.length) (flatF fs ad fs.length ++ flatF fs ad fs.length)) (hg : wr.grownBy wa v.ownBlock) (hat : v.ownBlock = some gg ∨ gg = wr.heap.size) :
    Row wa P lo (.slice (some ⟨gg, 0, none⟩) (fs.length + fs.length) cap') (fs ++ fs).length (fs ++ fs) (plApp fs.length ad ad) := by
  have ht : Turned wr wa (fun x => v.ownBlock = some x) := Turned.of_grown hg fun x hx => hx
  have gne : ∀ x, x < wr.heap.size → v.ownBlock ≠ some x → (Value.slice (some ⟨gg, 0, none⟩) (fs.length + fs.length) cap').ownBlock ≠ some x := fun x hx hn e => by
    obtain rfl : gg = x := by simpa [Value.ownBlock] using e
    rcases hat with h1 | h1
    · exact hn h1
    · omega
  have hl : (fs ++ fs).length = fs.length + fs.length := List.length_append
  have red : ∀ i, i < fs.length + fs.length → ∃ j, j < fs.length ∧ fps (fs ++ fs) i = fps fs j ∧ fts (fs ++ fs) i = fts fs j ∧ plApp fs.length ad ad i = ad j := fun i hi => by
    by_cases e : i < fs.length
    · exact ⟨i, e, by unfold fps; rw [fg_app_lt e], by unfold fts; rw [fg_app_lt e], by unfold plApp; rw [if_pos e]⟩
    · exact ⟨i - fs.length, by omega, by unfold fps; rw [fg_app_ge (by omega)], by unfold fts; rw [fg_app_ge (by omega)], by unfold plApp; rw [if_neg e]⟩
  rw [hl]
  refine ⟨by rw [flatF_app2]; exact hrow, fun i hi => ?_, fun i hi => ?_, fun i hi => ?_, fun i hi => ?_⟩
  all_goals
    obtain ⟨j, hj, e1, e2, e3⟩ := red i hi
    first | rw [e1, e3] | rw [e2, e3]
  · exact (h.pts j hj).turned0 ht ((h.prng j hj).imp (fun h => h) fun q x hx => (q x hx).2.2)
  · exact (h.tags j hj).turned0 ht ((h.trng j hj).imp (fun h => h) fun q x hx => (q x hx).2.2)
  · exact (h.prng j hj).imp (fun h => h) fun q x hx => ⟨(q x hx).1, Nat.lt_of_lt_of_le (q x hx).2.1 hg.size, gne x (q x hx).2.1 (q x hx).2.2⟩
  · exact (h.trng j hj).imp (fun h => h) fun q x hx => ⟨(q x hx).1, Nat.lt_of_lt_of_le (q x hx).2.1 hg.size, gne x (q x hx).2.1 (q x hx).2.2⟩

set_option maxRecDepth 100000 in
set_option maxHeartbeats 8000000 in
theorem l3Bent_any (R : Nat) (a : Option Addr) (len cap : Nat) (p : Int) (w : World) (h : Rd w R a len cap p) (hp : p ≤ 50000) (hl : len ≤ 2000) :
    Calls Tryz.prog 71 #[.pointer (some ⟨R, 0, none⟩)] w (ListDrawn w R a len cap p 20 500) := by
  have HR := Lib.hid h
  have hRlt := h.lt
  have hcode : Hid (∀ c, w.heap.size ≤ c → ∀ i, i < len → blk a ≠ some c) := fun c hc => h.codeLt hc
  obtain ⟨i0, hi, hz0, hz1, hz2⟩ := info_parts infoF
  have HI := Lib.hid hi
  have HZ0 := Lib.hid hz0
  have HZ1 := Lib.hid hz1
  have HZ2 := Lib.hid hz2
  clear h hi hz0 hz1 hz2
  go_enter Tryz.func71, Tryz.ntmps71
  go_wp2_with fail
  refine (l3Sheet_any R a len cap _ _ HR.out (by omega) hl).mono ?_
  rintro e w1 ⟨v, fs, ad, p1, rfl, hrow, hfl, hlens, hr, hp1, hg⟩
  have FL := Lib.hid hlens
  have W1 := Lib.hid hrow
  have D1 := Lib.hid hr
  have G1 := Lib.hid hg
  have z1 := hg.size
  clear hrow hlens hr hg
  go_wp2_with fail
  refine (pick_any _ _ _ _ _ _ _ D1.out (by omega) hl (by omega) (by omega)).mono ?_
  rintro e w2 ⟨x, rfl, hx0, hx1, hr, hg, hs⟩
  have W2 : Hid (Row w2 (fun x => w.heap.size ≤ x ∧ x < w2.heap.size) w.heap.size v fs.length fs ad) := (W1.out.turned (Turned.of_rd hg) (fun x hx e => by omega) (fun x hx e => by have := hx.1; omega)).wider (fun x hx => ⟨hx.1, by have := hx.2; omega⟩) (Nat.le_refl _)
  have D2 := Lib.hid hr
  have G2 : Hid (w.grownBy w2 (some R)) := G1.out.trans hg
  have z2 := hg.size
  obtain ⟨X, rfl⟩ : ∃ X : Nat, x = (X : Int) := ⟨x.toNat, by omega⟩
  have VL : Hid (∀ x, v.ownBlock = some x → w.heap.size ≤ x ∧ x < w2.heap.size) := fun x hx => W2.out.row.lt x hx
  obtain ⟨sa, sc, hv, hff⟩ := W2.out.feats
  have FF := Lib.hid hff
  have HVV := Lib.hid hv
  clear hr hg hs W1 D1 G1 hff hv
  by_cases e0 : X = 0
  · subst e0
    go_wp2_with fail
    refine (l2Bent_any R a len cap _ _ D2.out (by omega) hl).mono ?_
    rintro e w3 ⟨id, k, pa, pc, ps, ta, tc, ts, p3, rfl, hid, hpt, hpr, hpl, hown, htl, hts, hr, hp3, hg, _⟩
    have z3 := hg.size
    have W3 : Hid (Row w3 (fun x => w.heap.size ≤ x ∧ x < w3.heap.size) w.heap.size v fs.length fs ad) := (W2.out.turned (Turned.of_rd hg) (fun x hx e => by omega) (fun x hx e => by have := hx.1; omega)).wider (fun x hx => ⟨hx.1, by have := hx.2; omega⟩) (Nat.le_refl _)
    have D3 := Lib.hid hr
    have G3 : Hid (w.grownBy w3 (some R)) := G2.out.trans hg
    have PT := Lib.hid hpt
    have TT := Lib.hid (tags_of_own hown)
    have PR : Hid (ps.length = 0 ∨ ∀ y, blk pa = some y → (w.heap.size ≤ y ∧ y < w3.heap.size) ∧ y < w3.heap.size ∧ v.ownBlock ≠ some y) := .inr fun y hy => ⟨⟨by have := (hpr y hy).1; omega, (hpr y hy).2⟩, (hpr y hy).2, fun e => by have h1 := (VL.out y e).2; have h2 := (hpr y hy).1; omega⟩
    have TR : Hid (ts.length = 0 ∨ ∀ y, blk ta = some y → (w.heap.size ≤ y ∧ y < w3.heap.size) ∧ y < w3.heap.size ∧ v.ownBlock ≠ some y) := by
      obtain ⟨a', c', e', _, _, h'⟩ := owned_tags hown rfl
      obtain ⟨rfl, rfl⟩ : ta = a' ∧ tc = c' := by simpa using e'
      exact .inr fun y hy => ⟨⟨by have := (h' y hy).1; omega, (h' y hy).2⟩, (h' y hy).2, fun e => by have h1 := (VL.out y e).2; have h2 := (h' y hy).1; omega⟩
    have FN : Hid (FeatsLen (fs ++ [(id, k, ps, ts)]) 8) := featsLen_snoc FL.out ⟨by show (id.size : Int) ≤ 8; omega, by show (ps.length : Int) ≤ 8; omega, by show (ts.length : Int) ≤ 8; omega, hts⟩
    clear hr hg hpt hpr hown hts W2 D2 G2 FF
    go_wp2_with (at_builtin; refine wpList_append_lies _ (by rfl) _ _ _ (by rfl) w.heap.size 33 i0 _ 4 72 Tryz.underlying23 HI.out HZ0.out HZ1.out HZ2.out rfl (by omega) v fs.length (flatF fs ad fs.length) (by rfl) (W3.out.row.alloc _) ⟨w3.heap.size, 0, none⟩ 1 1 (cellsF (id, k, ps, ts) ((pa, pc), (ta, tc))) (by rfl) (by rfl) (World.news_of_block (cs := #[.string id, .int .i64 k, .slice pa ps.length pc, .slice ta ts.length tc]) (t := 33) (fr := (0, 0)) (heap_alloc_new w3 _)) (by simp [Value.oneCell', cellsF]) (by omega) (by unfold maxLen; omega) (by omega) (by simp; omega) (w3.heap.size + 1) (by simp) ?_; intro gg cap' wa hown1 hgrow hat hlt')
    have HS := Lib.hid (W3.out.snoc (x := (id, k, ps, ts)) PT.out PR.out TT.out TR.out hown1 hgrow hat)
    have RD : Hid (Rd wa R a len cap p3) := (D3.out.alloc _).kept hgrow (fun e => by have := (VL.out R e).1; omega) (fun i hi e => by obtain ⟨b, off, c, e2, hlt2, _⟩ := HR.out.bytes i hi; rw [e2] at e; have := (VL.out b e.symm).1; omega)
    have GA := Lib.hid (grown_own (lo := 0) G3.out hgrow (fun x hx => (VL.out x hx).1))
    obtain ⟨sa', sc', e', hf'⟩ := HS.out.from (Nat.le_refl _)
    have HE := Lib.hid e'
    have HF := Lib.hid hf'
    clear hown1 hgrow hat e' hf'
    go_wp2
    go_ret
    exact ⟨sa', sc', _, p3, congrArg Ending.returned HE.out, HF.out, by simp; omega, FN.out, RD.out, by omega, GA.out⟩
  by_cases e1 : X = 1
  · subst e1
    by_cases hn : fs.length = 0
    · have hv := HVV.out
      rw [hn] at hv
      have FE : Hid (fs = []) := List.eq_nil_of_length_eq_zero hn
      clear HVV hn
      subst hv
      have hr0 : Hid (∀ (ty : TypeId) (u : World), (Builtin.append_ #[23, 23] ty #[.slice sa 0 sc, .slice sa 0 sc]).run Tryz.prog u = .ok (.slice sa 0 sc) u) := fun ty u => run_append00 u _ ty _ i0 Tryz.underlying23 HI.out sa sc
      go_wp2_with (at_builtin; refine Lib.wpList_append_run _ rfl _ _ _ _ rfl _ _ rfl rfl _ _ (hr0.out _ _) ?_)
      go_ret
      exact ⟨sa, sc, [], _, rfl, FeatsFrom.nil _ _ _, by simp, fun i hi => absurd hi (Nat.not_lt_zero _), D2.out, by omega, G2.out⟩
    · obtain ⟨g, gcap, hv, hnews⟩ : ∃ g gcap, v = .slice (some ⟨g, 0, none⟩) fs.length gcap ∧ ∀ j u, (flatF fs ad fs.length)[j]? = some u → w2.cell? (Addr.add ⟨g, 0, none⟩ j) = some u := by
        obtain ⟨_, ⟨_, h3⟩ | ⟨g, gcap, cur, e, _, hgb, _, _, _, hx⟩⟩ := W2.out.row
        · exact absurd h3 hn
        · refine ⟨g, gcap, e, fun j u hj => ?_⟩
          have hjl : j < (flatF fs ad fs.length).length := (List.getElem?_eq_some_iff.1 hj).1
          rw [flatF_len] at hjl
          rw [← hx, List.getElem?_take, if_pos hjl] at hj
          rw [add_plain]
          simp only [World.cell?, hgb, Option.isSome_none, Bool.false_eq_true, if_false, Nat.zero_add]
          simpa using hj
      clear HVV
      subst hv
      have NW := Lib.hid hnews
      clear hnews
      have FN : Hid (FeatsLen (fs ++ fs) 8) := featsLen_app FL.out FL.out
      go_wp2_with (at_builtin; refine wpList_append_lies _ (by rfl) _ _ _ (by rfl) w.heap.size 33 i0 _ 4 72 Tryz.underlying23 HI.out HZ0.out HZ1.out HZ2.out rfl (by omega) (.slice (some ⟨g, 0, none⟩) fs.length gcap) fs.length (flatF fs ad fs.length) (by rfl) W2.out.row ⟨g, 0, none⟩ fs.length gcap (flatF fs ad fs.length) (by rfl) (flatF_len _ _ _) NW.out (flatF_cells _ _ _) (by omega) (by unfold maxLen; omega) (by omega) (by omega) w2.heap.size rfl ?_; intro gg cap' wa hown1 hgrow hat hlt')
      have HS := Lib.hid (W2.out.twice hown1 hgrow hat)
      have RD : Hid (Rd wa R a len cap (p1 + 1)) := D2.out.kept hgrow (fun e => by have := (VL.out R e).1; omega) (fun i hi e => by obtain ⟨b, off, c, e2, hlt2, _⟩ := HR.out.bytes i hi; rw [e2] at e; have := (VL.out b e.symm).1; omega)
      have GA : Hid (w.grownBy wa (some R)) := ⟨hgrow.os.trans G2.out.os, hgrow.tape.trans G2.out.tape, hgrow.output.trans G2.out.output, Nat.le_trans G2.out.size hgrow.size, fun i hi hne => (hgrow.block i (by omega) (fun e => by have := (VL.out i e.symm).1; omega)).trans (G2.out.block i hi hne)⟩
      obtain ⟨sa', sc', e', hf'⟩ := HS.out.from (Nat.le_refl _)
      have HE := Lib.hid e'
      have HF := Lib.hid hf'
      clear hown1 hgrow hat e' hf'
      go_ret
      exact ⟨sa', sc', _, _, congrArg Ending.returned HE.out, HF.out, by simp; omega, FN.out, RD.out, by omega, GA.out⟩
  by_cases e2 : X = 2
  · subst e2
    rw [HVV.out] at VL
    go_wp2
    rw [HVV.out]
    go_loopw [3, 4] (fun s i wr => ∃ (m : Nat) (gs : List Ft) (ga : Option Addr) (gc : Nat), m ≤ 9 ∧ i = .int .i64 m ∧ s = .slice ga gs.length gc ∧ gs.length ≤ 4 + m ∧ FeatsLen gs 8 ∧ FeatsFrom w.heap.size wr ga gs ∧ Rd wr R a len cap (p1 + 1) ∧ w.grownBy wr (some R)) (fun _ i _ => 9 - (intOf i).toNat)
    case atStart => exact ⟨0, fs, sa, sc, by omega, rfl, rfl, by omega, FL.out, FF.out, D2.out, G2.out⟩
    case round =>
      obtain ⟨m, gs, ga, gc, hm, rfl, rfl, hgl, hgs, hgf, hgd, hgg⟩ := hrel
      have GF := Lib.hid hgf
      have GD := Lib.hid hgd
      have GG := Lib.hid hgg
      have GL := Lib.hid hgs
      have zr := hgg.size
      clear hgf hgd hgg hgs
      by_cases hlt : m ≤ 8
      · have g1 : (m : Int) ≤ 8 := by omega
        have A1 : Hid (∀ o, Below wr.heap.size wr (wr.alloc o)) := fun o => (Below.refl _ _).alloc (Nat.le_refl _) _
        have PZ : Hid (PtsAt (wr.alloc (.cells #[.int .i64 0, .int .i64 0] 148)) (some ⟨wr.heap.size, 0, none⟩) [((0 : Int), (0 : Int))]) := fun i hi => by
          obtain rfl : i = 0 := by simp at hi; omega
          exact ⟨wr.heap.size, 0, rfl, by simp, by simp [go_sem, px], by simp [go_sem, py]⟩
        go_wp2_with fail
        refine (l3Put_row w.heap.size ga gc gs (ByteArray.extract ⟨#[113, 114, 115, 116, 117, 118, 119, 120, 121, 122]⟩ m (m + 1), 1, [((0 : Int), (0 : Int))], []) (some ⟨wr.heap.size, 0, none⟩) none 1 0 _ (GF.out.turned (S := fun _ => False) (Turned.of_below (A1.out _)) (fun _ _ _ h => h)) (by omega) PZ.out (fun i hi => absurd hi (Nat.not_lt_zero _)) (.inr fun x hx => by simp [blk] at hx; omega) (.inl rfl)).mono ?_
        rintro e w5 ⟨⟨v5, ad5, rfl, hrow5⟩, hb5⟩
        have hpl := putL_len (ByteArray.extract ⟨#[113, 114, 115, 116, 117, 118, 119, 120, 121, 122]⟩ m (m + 1), 1, [((0 : Int), (0 : Int))], []) gs
        have LL : Hid (FeatsLen (putL gs (ByteArray.extract ⟨#[113, 114, 115, 116, 117, 118, 119, 120, 121, 122]⟩ m (m + 1), 1, [((0 : Int), (0 : Int))], [])) 8) := featsLen_put GL.out ⟨by show ((ByteArray.extract _ m (m + 1)).size : Int) ≤ 8; rw [ByteArray.size_extract]; omega, by show (1 : Int) ≤ 8; omega, by show (0 : Int) ≤ 8; omega, fun i hi => absurd hi (Nat.not_lt_zero _)⟩
        have hbb : Below wr.heap.size wr w5 := (A1.out _).trans (hb5.mono (by simp))
        obtain ⟨g5, c5, rfl, hf5⟩ := hrow5.from (lo := w.heap.size) (by simp; omega)
        have F5 := Lib.hid hf5
        have D5 : Hid (Rd w5 R a len cap (p1 + 1)) := GD.out.kept (r := none) (grown_low _ hbb) (by simp) (fun i hi => by obtain ⟨b, off, c, e, _⟩ := GD.out.bytes i hi; rw [e]; simp [blk])
        have G5 : Hid (w.grownBy w5 (some R)) := GG.out.trans (grown_low _ hbb)
        clear hrow5 hb5 hbb hf5
        go_wp2
        go_roundw
        case rel => exact ⟨m + 1, _, g5, c5, by omega, by go_num, rfl, by omega, LL.out, F5.out, D5.out, G5.out⟩
        case measure => simp [intOf]; omega
      · obtain rfl : m = 9 := by omega
        go_wp2
        go_ret
        exact ⟨ga, gc, gs, _, rfl, GF.out, by omega, GL.out, GD.out, by omega, GG.out⟩
  have b0 : ((X : Int) == 0) = false := by simp; omega
  have b1 : ((X : Int) == 1) = false := by simp; omega
  have b2 : ((X : Int) == 2) = false := by simp; omega
  go_wp2
  go_ret
  exact ⟨sa, sc, fs, _, congrArg Ending.returned HVV.out, FF.out, by omega, FL.out, D2.out, by omega, G2.out⟩
end Go.Proofs.YtdfadpejddhbkaaGreat

namespace Go.Proofs.YtdfadpejddhbkaaGreat
set_option linter.unusedVariables false
open Go.ChangeShapes Go.WideShapes Go.ChangeAt Go.RowKit Go.Deep Go.Joins

theorem own : ownKnob Tryz.prog.godebug = none := by kernel_rfl
theorem laidOut : laidOutB Tryz.prog = true := by kernel_rfl
theorem cells_lshape : Tryz.prog.cellsOf 122 = 2 := by kernel_rfl
theorem cells_lpt : Tryz.prog.cellsOf 217 = 2 := by kernel_rfl
theorem cells_int : Tryz.prog.cellsOf 3 = 1 := by kernel_rfl

/-- a slice of the laws' points that came in -/
theorem open_pts {H : Type} {enc : TypeId × Value → H} {W : World} {base : Nat} {spare : Nat → Bool} {held : Bool} {fuel : Nat} {v : Value} {x : DataW H × List MemPlace}
    (h : DataW.trod enc Tryz.prog W base spare held fuel 120 [v] = some x) :
    ∃ (a : Option Addr) (cap : Nat) (ps : List (Int × Int)), v = .slice a ps.length cap ∧ PtsAt W a ps ∧ ps.length ≤ maxLen := by
  rcases open_slice_pairs Tryz.underlying120 Tryz.underlying217 cells_lpt rfl rfl cells_int cells_int h with ⟨hcs, _⟩ | ⟨a, len, cap, m, n, V0, V1, D0, D1, P0, P1, hcs, hb, hl, hm, hmm, hx, hi⟩
  · obtain rfl : v = .slice none 0 0 := by simpa using hcs
    exact ⟨none, 0, [], rfl, PtsAt.nil _ _, Nat.zero_le _⟩
  · obtain rfl : v = .slice (some a) len cap := by simpa using hcs
    have hlm : len ≤ m := by rw [hmm]; split <;> omega
    have each : ∀ i, i < len → ∃ q : Int × Int, W.cell? (a.add (i * 2)) = some (.int .i64 q.1) ∧ W.cell? (a.add (i * 2 + 1)) = some (.int .i64 q.2) := by
      intro i hil
      obtain ⟨h0, h1, t0, t1⟩ := hi i (by omega)
      obtain ⟨x0, e0, _, _⟩ := DataW.trod_int Tryz.underlying3 t0
      obtain ⟨x1, e1, _, _⟩ := DataW.trod_int Tryz.underlying3 t1
      simp only [List.cons.injEq, and_true] at e0 e1
      exact ⟨(x0, x1), by rw [h0, e0], by rw [h1, e1]⟩
    obtain ⟨q, hq⟩ := choose_lt each
    refine ⟨some a, cap, (List.range len).map q, by simp, ?_, by simp; omega⟩
    intro i hi'
    have hil : i < len := by simpa using hi'
    obtain ⟨h0, h1⟩ := hq i hil
    obtain ⟨b, off, spot⟩ := a
    have hspot : spot = none := by simpa [Addr.add] using World.cell?_spot (hq 0 (by omega)).1
    subst hspot
    rw [add_plain] at h0 h1
    have hpx : px ((List.range len).map q) i = (q i).1 := by simp [px, hil]
    have hpy : py ((List.range len).map q) i = (q i).2 := by simp [py, hil]
    rw [hpx, hpy]
    refine ⟨b, off, rfl, World.block_lt_of_cell? W _ h0, ?_, ?_⟩
    · exact h0
    · simpa [Nat.add_assoc] using h1

set_option maxRecDepth 100000 in
/-- a shape of the laws that came in -/
theorem open_shape {H : Type} {enc : TypeId × Value → H} {W : World} {r : Reach} {b0 base : Nat} {spare : Nat → Bool} {held : Bool} {v : Value} {d : DataW H} {p : List MemPlace}
    (hv : Value.okWide Tryz.prog W r b0 122 v) (h : DataW.Trod enc Tryz.prog W base spare held 122 v d p) :
    ∃ (k : Int) (a : Option Addr) (cap : Nat) (ps : List (Int × Int)), v = .agg #[.int .i64 k, .slice a ps.length cap] ∧ PtsAt W a ps ∧ ps.length ≤ maxLen := by
  obtain ⟨c0, c1, y0, y1, m, rfl, _, _, hy0, hy1⟩ := open_agg2 Tryz.underlying122 (by kernel_rfl) cells_lshape hv h
  obtain ⟨k, e0, _, _⟩ := DataW.trod_int Tryz.underlying3 hy0
  simp only [List.cons.injEq, and_true] at e0
  obtain ⟨a, cap, ps, rfl, hp, hm⟩ := open_pts hy1
  exact ⟨k, a, cap, ps, by rw [e0], hp, hm⟩
end Go.Proofs.YtdfadpejddhbkaaGreat

namespace Go.Proofs.YtdfadpejddhbkaaGreat
set_option linter.unusedVariables false
open Go.ChangeShapes Go.WideShapes Go.ChangeAt Go.RowKit Go.Deep

/-- a new reader -/
def Opened (w : World) (a : Option Addr) (n cap : Nat) (e : Ending) (w' : World) : Prop :=
  ∃ R m, e = .returned (.pointer (some ⟨R, 0, none⟩)) ∧ w.heap.size ≤ R ∧ m ≤ 2000 ∧ Rd w' R a m cap 0 ∧ Below w.heap.size w w'

theorem CodeAt.less {w : World} {a : Option Addr} {n m : Nat} (h : CodeAt w a n) (hm : m ≤ n) : CodeAt w a m := fun i hi => h i (by omega)

theorem rd_new {w : World} {a : Option Addr} {n cap : Nat} (h : CodeAt w a n) (t : TypeId) : Rd (w.alloc (.cells #[.slice a n cap, .int .i64 0] t)) w.heap.size a n cap 0 := by
  obtain ⟨c0, c1, c2, c3⟩ := cell_two w (.slice a n cap) (.int .i64 0) t
  refine ⟨c0, c1, c3, h.below ((Below.refl _ _).alloc (Nat.le_refl _) _), fun i hi => ?_, Int.le_refl _⟩
  obtain ⟨b, off, c, e, hlt, _⟩ := h i hi
  rw [e]
  simp [blk]
  omega

set_option maxRecDepth 100000 in
set_option maxHeartbeats 1000000 in
theorem l12Open_any (a : Option Addr) (n cap : Nat) (w : World) (h : CodeAt w a n) (hl : n ≤ 1048576) (hc : n ≤ cap) :
    Calls Tryz.prog 70 #[.slice a n cap] w (Opened w a n cap) := by
  by_cases hn : n ≤ 2000
  · have hg : ¬ (2000 : Int) < (n : Int) := by omega
    have HR := Lib.hid (rd_new (cap := cap) h 159)
    clear h
    go_enter Tryz.func70, Tryz.ntmps70
    go_wp2
    go_ret
    exact ⟨w.heap.size, n, rfl, Nat.le_refl _, hn, HR.out, (Below.refl _ _).alloc (Nat.le_refl _) _⟩
  · have hg : (2000 : Int) < (n : Int) := by omega
    have hc2 : (2000 : Int) ≤ (cap : Int) := by omega
    have HR := Lib.hid (rd_new (cap := cap) (h.less (m := 2000) (by omega)) 159)
    obtain ⟨b, off, c, rfl, _⟩ := h 0 (by omega)
    clear h
    go_enter Tryz.func70, Tryz.ntmps70
    go_wp2
    go_ret
    exact ⟨w.heap.size, 2000, rfl, Nat.le_refl _, by omega, HR.out, (Below.refl _ _).alloc (Nat.le_refl _) _⟩

/-- a drawn shape -/
def Drawn (w : World) (e : Ending) (w' : World) : Prop :=
  ∃ (k : Int) (g c2 : Nat) (ps : List (Int × Int)), e = .returned (.agg #[.int .i64 k, .slice (some ⟨g, 0, none⟩) ps.length c2]) ∧ PtsAt w' (some ⟨g, 0, none⟩) ps ∧ ps.length ≤ 7 ∧ Below w.heap.size w w'

set_option maxRecDepth 100000 in
/-- a code that came in -/
theorem open_code {H : Type} {enc : TypeId × Value → H} {W : World} {r : Reach} {b0 base : Nat} {spare : Nat → Bool} {held : Bool} {v : Value} {d : DataW H} {p : List MemPlace}
    (hv : Value.okWide Tryz.prog W r b0 22 v) (h : DataW.Trod enc Tryz.prog W base spare held 22 v d p) :
    ∃ (a : Option Addr) (n cap : Nat), v = .slice a n cap ∧ CodeAt W a n ∧ n ≤ cap ∧ n ≤ maxLen := by
  obtain ⟨a0, len, cap, rfl⟩ := okWide_slice Tryz.underlying22 hv
  obtain ⟨fuel, hf⟩ := h
  rcases open_ints Tryz.underlying22 Tryz.underlying5 (by kernel_rfl) hf with ⟨hcs, _⟩ | ⟨x, l, c, zs, hcs, _, hl, hm, hz, _, hcell, hwz⟩
  · simp [Value.cells] at hcs
    obtain ⟨rfl, rfl, rfl⟩ := hcs
    exact ⟨none, 0, 0, rfl, fun i hi => absurd hi (Nat.not_lt_zero _), Nat.le_refl _, Nat.zero_le _⟩
  · simp [Value.cells] at hcs
    obtain ⟨rfl, rfl, rfl⟩ := hcs
    have hlz : len ≤ zs.length := by
      rw [hz]
      split <;> omega
    refine ⟨some x, len, cap, rfl, fun i hi => ?_, hl, by omega⟩
    have h0 := hcell 0 (by omega)
    obtain ⟨b, off, spot⟩ := x
    have hspot : spot = none := by simpa [Addr.add] using World.cell?_spot h0
    subst hspot
    have hi' := hcell i (by omega)
    rw [add_plain] at hi'
    have hb := bounds_u8 (hwz (zs.getD i 0) (by rw [List.getD_eq_getElem?_getD, List.getElem?_eq_getElem (by omega)]; exact List.getElem_mem _))
    exact ⟨b, off, zs.getD i 0, rfl, World.block_lt_of_cell? _ _ hi', hi', hb.1, hb.2⟩
end Go.Proofs.YtdfadpejddhbkaaGreat

namespace Go.Proofs.YtdfadpejddhbkaaGreat
set_option linter.unusedVariables false
open Go.ChangeShapes Go.WideShapes Go.ChangeAt Go.RowKit Go.Deep

/-- what DrawSheetGet answers -/
def GetDrawn (w : World) (e : Ending) (w' : World) : Prop :=
  ∃ (sa : Option Addr) (sc : Nat) (fs : List Ft) (id : ByteArray), e = .returned (.tuple #[.slice sa fs.length sc, .string id]) ∧ FeatsAt w' sa fs ∧ fs.length ≤ 20 ∧ FeatsLen fs 8 ∧ id.size ≤ 8 ∧ Below w.heap.size w w'

set_option maxRecDepth 100000 in
set_option maxHeartbeats 4000000 in
theorem drawSheetGet_any (a : Option Addr) (n cap : Nat) (w : World) (h : CodeAt w a n) (hl : n ≤ 1048576) (hc : n ≤ cap) :
    Calls Tryz.prog 55 #[.slice a n cap] w (GetDrawn w) := by
  have HC := Lib.hid h
  clear h
  go_enter Tryz.func55, Tryz.ntmps55
  go_wp2_with fail
  refine (l12Open_any _ _ _ _ HC.out hl hc).mono ?_
  rintro e w1 ⟨R, m, rfl, hR, hm, hr, hb1⟩
  have D1 := Lib.hid hr
  have B1 := Lib.hid hb1
  clear hr hb1
  go_wp2_with fail
  refine (l3Bent_any _ _ _ _ _ _ D1.out (by omega) (by omega)).mono ?_
  rintro e w2 ⟨ss, sc, fs, p2, rfl, hff, hfl, hfs, hr, hp2, hg⟩
  have D2 := Lib.hid hr
  have FF := Lib.hid hff
  have FL := Lib.hid hfs
  have T2 := Lib.hid (Turned.of_rd hg)
  have z2 := hg.size
  have zR := D1.out.lt
  clear hr hff hfs hg D1
  go_wp2_with fail
  refine (l2Id_any _ _ _ _ _ _ D2.out (by omega) (by omega)).mono ?_
  rintro e w3 ⟨id, rfl, hid, hr, hg⟩
  have T3 := Lib.hid (Turned.of_rd hg)
  have F3 := Lib.hid (FF.out.turned T3.out (fun z hz _ e => by omega))
  have B3 : Hid (Below w.heap.size w w3) := B1.out.trans ((T2.out.trans T3.out).below B1.out.size (fun z hz => by omega))
  clear hr hg D2 FF T2 T3
  go_wp2
  refine bodyPost_ret (v := .tuple #[.slice ss fs.length sc, .string id]) (by simp [results, Tryz.results55, go_sem]) rfl ?_
  exact ⟨ss, sc, fs, id, rfl, F3.out.reads, hfl, FL.out, hid, B3.out⟩

set_option maxRecDepth 100000 in
set_option maxHeartbeats 1000000 in
theorem drawSheetCut_any (a : Option Addr) (n cap : Nat) (w : World) (h : CodeAt w a n) (hl : n ≤ 1048576) (hc : n ≤ cap) :
    Calls Tryz.prog 14 #[.slice a n cap] w (GetDrawn w) := by
  have HC := Lib.hid h
  clear h
  go_enter Tryz.func14, Tryz.ntmps14
  go_wp2_with fail
  refine (drawSheetGet_any _ _ _ _ HC.out hl hc).mono ?_
  rintro e w1 ⟨sa, sc, fs, id, rfl, h1, h2, h3, h4, h5⟩
  have H := Lib.hid (show GetDrawn w _ w1 from ⟨sa, sc, fs, id, rfl, h1, h2, h3, h4, h5⟩)
  clear h1 h2 h3 h4 h5
  go_wp2
  refine bodyPost_ret (v := .tuple #[.slice sa fs.length sc, .string id]) (by simp [results, Tryz.results14, go_sem]) rfl ?_
  exact H.out
end Go.Proofs.YtdfadpejddhbkaaGreat

namespace Go.Proofs.YtdfadpejddhbkaaGreat
set_option linter.unusedVariables false
open Go.ChangeShapes Go.WideShapes Go.ChangeAt Go.RowKit

/-- the place of the first thing of a name; where there is none, how many there are -/
def firstF (fs : List Ft) (id : ByteArray) : Nat := fs.findIdx (fun f => decide (f.1 = id))

theorem fid_get {fs : List Ft} {i : Nat} (h : i < fs.length) : fs[i].1 = fid fs i := by unfold fid; rw [fg_get h]

theorem firstF_hit {fs : List Ft} {id : ByteArray} {k : Nat} (hk : k < fs.length) (h : fid fs k = id) (hall : ∀ j, j < k → fid fs j ≠ id) : firstF fs id = k := by
  unfold firstF
  rw [List.findIdx_eq hk]
  refine ⟨by simp [fid_get hk, h], fun j hj => ?_⟩
  have := hall j hj
  rw [← fid_get (by omega)] at this
  simpa using this

theorem firstF_miss {fs : List Ft} {id : ByteArray} (hall : ∀ j, j < fs.length → fid fs j ≠ id) : firstF fs id = fs.length := by
  unfold firstF
  rw [List.findIdx_eq_length]
  intro x hx
  obtain ⟨i, hi, rfl⟩ := List.getElem_of_mem hx
  have := hall i hi
  rw [← fid_get hi] at this
  simpa using this

theorem firstF_at {fs : List Ft} {id : ByteArray} (h : firstF fs id < fs.length) : fid fs (firstF fs id) = id := by
  have := List.findIdx_getElem (p := fun f : Ft => decide (f.1 = id)) (xs := fs) (w := h)
  rw [← fid_get h]
  exact of_decide_eq_true this

/-- what the look answers -/
def findV (fs : List Ft) (id : ByteArray) : Int := if firstF fs id < fs.length then (firstF fs id : Int) else -1

set_option maxHeartbeats 2000000 in
theorem l3Find_any (a : Option Addr) (cap : Nat) (fs : List Ft) (id : ByteArray) (w : World) (hp : FeatsAt w a fs) (hl : fs.length ≤ 1048576) :
    Calls Tryz.prog 59 #[.slice a fs.length cap, .string id] w fun e w' => e = .returned (.int .i64 (findV fs id)) ∧ w = w' := by
  have HP := Lib.hid hp
  clear hp
  go_enter Tryz.func59, Tryz.ntmps59
  go_wp2
  go_loopw [5] (fun i wr => ∃ k : Nat, k ≤ fs.length ∧ i = .int .i64 k ∧ w = wr ∧ ∀ j, j < k → fid fs j ≠ id) (fun i _ => fs.length - (intOf i).toNat)
  case atStart => exact ⟨0, Nat.zero_le _, rfl, rfl, fun j h => absurd h (Nat.not_lt_zero _)⟩
  case round =>
    obtain ⟨k, hk, rfl, rfl, hall⟩ := hrel
    have HA := Lib.hid hall
    clear hall
    by_cases hlt : k < fs.length
    · obtain ⟨b, off, pa, pc, ta, tc, rfl, hb, hc1, _⟩ := HP.out k hlt
      have hbq := bytes_beq (fid fs k) id
      by_cases hs : fid fs k = id
      · rw [decide_eq_true hs] at hbq
        have HS : Hid (findV fs id = (k : Int)) := by
          have := firstF_hit hlt hs HA.out
          show _ = _
          unfold findV
          rw [this, if_pos hlt]
        clear hs
        go_wp2
        go_ret
        exact ⟨congrArg (fun x => Ending.returned (Value.int .i64 x)) HS.out.symm, rfl⟩
      · rw [decide_eq_false hs] at hbq
        have HS := Lib.hid hs
        clear hs
        go_wp2
        go_roundw
        case rel => exact ⟨k + 1, by omega, by go_num, by trivial, fun j hj => by by_cases e : j = k; (subst e; exact HS.out); exact HA.out j (by omega)⟩
        case measure => simp [intOf]; omega
    · obtain rfl : k = fs.length := by omega
      have HS : Hid (findV fs id = -1) := by
        have := firstF_miss HA.out
        show _ = _
        unfold findV
        rw [this, if_neg (by omega)]
      go_wp2
      go_ret
      exact ⟨congrArg (fun x => Ending.returned (Value.int .i64 x)) HS.out.symm, rfl⟩
end Go.Proofs.YtdfadpejddhbkaaGreat
