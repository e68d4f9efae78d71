/- Proved here: the size of a list of things, and that it is copied thing by thing into memory of its own; lists of at most 1,048,576 things, points and tags. -/
import Derived.Test.YtdfadpejddhbkaaGreatWFeatTo
import Derived.Test.YtdfadpejddhbkaaGreatWBox4
namespace Go.Proofs.YtdfadpejddhbkaaGreat
set_option linter.unusedVariables false
open Go.ChangeShapes Go.WideShapes Go.ChangeAt Go.RowKit

/-- a thing: its name, its kind, its points and its tags -/
abbrev Ft := ByteArray × Int × List (Int × Int) × List Tg

/-- the parts of a thing of a list -/
def fg (fs : List Ft) (i : Nat) : Ft := fs.getD i (.empty, 0, [], [])
def fid (fs : List Ft) (i : Nat) : ByteArray := (fg fs i).1
def fkd (fs : List Ft) (i : Nat) : Int := (fg fs i).2.1
def fps (fs : List Ft) (i : Nat) : List (Int × Int) := (fg fs i).2.2.1
def fts (fs : List Ft) (i : Nat) : List Tg := (fg fs i).2.2.2

theorem fg_eq (fs : List Ft) (i : Nat) : fg fs i = (fid fs i, fkd fs i, fps fs i, fts fs i) := rfl
theorem fg_get {fs : List Ft} {i : Nat} (h : i < fs.length) : fg fs i = fs[i] := by simp [fg, h]

/-- no part of a thing is longer than that -/
def FtLen (f : Ft) (m : Int) : Prop := (f.1.size : Int) ≤ m ∧ (f.2.2.1.length : Int) ≤ m ∧ (f.2.2.2.length : Int) ≤ m ∧ TagsLen f.2.2.2 m

/-- a slice that reads as things -/
def FeatsAt (w : World) (a : Option Addr) (fs : List Ft) : Prop :=
  ∀ i, i < fs.length → ∃ b off pa pc ta tc, a = some ⟨b, off, none⟩ ∧ b < w.heap.size ∧
    w.cell? ⟨b, off + i * 4, none⟩ = some (.string (fid fs i)) ∧ w.cell? ⟨b, off + i * 4 + 1, none⟩ = some (.int .i64 (fkd fs i)) ∧
    w.cell? ⟨b, off + i * 4 + 2, none⟩ = some (.slice pa (fps fs i).length pc) ∧ w.cell? ⟨b, off + i * 4 + 3, none⟩ = some (.slice ta (fts fs i).length tc) ∧
    PtsAt w pa (fps fs i) ∧ TagsAt w ta (fts fs i)

theorem FeatsAt.nil (w : World) (a : Option Addr) : FeatsAt w a [] := fun _ h => absurd h (Nat.not_lt_zero _)

theorem FeatsAt.below {w w' : World} {a : Option Addr} {fs : List Ft} (h : FeatsAt w a fs) (hb : Below w.heap.size w w') : FeatsAt w' a fs := by
  intro i hi
  obtain ⟨b, off, pa, pc, ta, tc, rfl, hlt, h1, h2, h3, h4, h5, h6⟩ := h i hi
  exact ⟨b, off, pa, pc, ta, tc, rfl, Nat.lt_of_lt_of_le hlt hb.size, by rw [hb.cell (p := ⟨b, _, none⟩) hlt]; exact h1, by rw [hb.cell (p := ⟨b, _, none⟩) hlt]; exact h2, by rw [hb.cell (p := ⟨b, _, none⟩) hlt]; exact h3, by rw [hb.cell (p := ⟨b, _, none⟩) hlt]; exact h4, h5.below hb, h6.below hb⟩

/-- no part is longer than that -/
def FeatsLen (fs : List Ft) (m : Int) : Prop := ∀ j, j < fs.length → ((fid fs j).size : Int) ≤ m ∧ ((fps fs j).length : Int) ≤ m ∧ ((fts fs j).length : Int) ≤ m ∧ TagsLen (fts fs j) m

theorem FeatsLen.mono {fs : List Ft} {l m : Int} (h : FeatsLen fs l) (hm : l ≤ m) : FeatsLen fs m := fun j hj =>
  ⟨Int.le_trans (h j hj).1 hm, Int.le_trans (h j hj).2.1 hm, Int.le_trans (h j hj).2.2.1 hm, (h j hj).2.2.2.mono hm⟩

def SzFeats (fs : List Ft) (left : Int) (r : Int) : Prop := r = -1 ∨ (0 ≤ r ∧ r ≤ left ∧ (fs.length : Int) ≤ left ∧ FeatsLen fs left)

/-- a list of things of the laws that came in, none of its parts longer than can be -/
structure FeatsIn (w : World) (a : Option Addr) (fs : List Ft) : Prop where
  reads : FeatsAt w a fs
  len : fs.length ≤ 9223372036854775807
  lens : FeatsLen fs 9223372036854775807

theorem FeatsIn.below {w w' : World} {a : Option Addr} {fs : List Ft} (h : FeatsIn w a fs) (hb : Below w.heap.size w w') : FeatsIn w' a fs := ⟨h.reads.below hb, h.len, h.lens⟩

set_option maxRecDepth 100000 in
set_option maxHeartbeats 2000000 in
theorem szFeatS_any (a : Option Addr) (cap : Nat) (fs : List Ft) (left : Int) (w : World) (hf : FeatsIn w a fs) (h0 : 0 ≤ left) (h1 : left ≤ 1048576) :
    Calls Tryz.prog 39 #[.slice a fs.length cap, .int .i64 left] w fun e w' => (∃ r, e = .returned (.int .i64 r) ∧ SzFeats fs left r) ∧ Below w.heap.size w w' := by
  obtain ⟨hp, hm, hl⟩ := hf
  have HP := Lib.hid hp
  have HL := Lib.hid hl
  clear hp hl
  by_cases g1 : (fs.length : Int) ≤ left
  · go_enter Tryz.func39, Tryz.ntmps39
    go_wp2
    go_loopw [1, 5] (fun l i wr => ∃ (k : Nat) (r : Int), k ≤ fs.length ∧ i = .int .i64 k ∧ l = .int .i64 r ∧ 0 ≤ r ∧ r ≤ left ∧ Below w.heap.size w wr ∧ ∀ j, j < k → ((fid fs j).size : Int) ≤ left ∧ ((fps fs j).length : Int) ≤ left ∧ ((fts fs j).length : Int) ≤ left ∧ TagsLen (fts fs j) left) (fun _ i _ => fs.length - (intOf i).toNat)
    case atStart => exact ⟨0, left - fs.length, Nat.zero_le _, rfl, by simp, by omega, by omega, Below.refl _ _, fun j h => absurd h (Nat.not_lt_zero _)⟩
    case round =>
      obtain ⟨k, r, hk, rfl, rfl, hr0, hr1, hbel, hall⟩ := hrel
      have HA := Lib.hid hall
      have HB := Lib.hid hbel
      have hsz := hbel.size
      clear hall
      by_cases hlt : k < fs.length
      · obtain ⟨b, off, pa, pc, ta, tc, rfl, hb, hc1, hc2, hc3, hc4, hpp, htt⟩ := HP.out k hlt
        rw [← hbel.cell (p := ⟨b, _, none⟩) hb] at hc1 hc2 hc3 hc4
        have HI : Hid (FeatIn wr (fid fs k) pa (fps fs k) ta (fts fs k)) := ⟨hpp.below hbel, htt.below hbel, by have := (HL.out k hlt).1; omega, by have := (HL.out k hlt).2.1; omega, by have := (HL.out k hlt).2.2.1; omega, (HL.out k hlt).2.2.2⟩
        clear hbel hpp htt
        go_wp2_with fail
        refine (szFeat_any _ _ _ _ _ _ _ _ _ _ HI.out hr0 (by omega)).mono ?_
        rintro e w1 ⟨⟨r', rfl, hs⟩, hb1⟩
        have B1 : Hid (Below w.heap.size w w1) := HB.out.trans (hb1.mono hsz)
        clear hb1 hc1 hc2 hc3 hc4
        rcases hs with rfl | ⟨g2, g3, g4, g5, g6, g7⟩
        · go_wp2
          go_ret
          exact ⟨⟨_, rfl, .inl rfl⟩, B1.out⟩
        · have G7 := Lib.hid g7
          clear g7
          go_wp2
          go_roundw
          case rel => exact ⟨k + 1, r', by omega, by go_num, rfl, g2, by omega, B1.out, fun j hj => by by_cases e : j = k; (subst e; exact ⟨by omega, by omega, by omega, G7.out.mono (by omega)⟩); exact HA.out j (by omega)⟩
          case measure => simp [intOf]; omega
      · obtain rfl : k = fs.length := by omega
        clear hbel
        go_wp2
        go_ret
        exact ⟨⟨_, rfl, .inr ⟨hr0, hr1, g1, HA.out⟩⟩, HB.out⟩
  · go_enter Tryz.func39, Tryz.ntmps39
    go_wp2
    go_ret
    exact ⟨⟨_, rfl, .inl rfl⟩, Below.refl _ _⟩

theorem infoFeat : (Tryz.prog.info? 33).map (fun i => (i.zero, i.size, i.bytes)) = some (some (.agg #[.string .empty, .int .i64 0, .slice none 0 0, .slice none 0 0]), 4, 72) := by kernel_rfl

/-- a things' cell by its place; the rows of points and tags lie where 'ad' says -/
def featCell (fs : List Ft) (ad : Nat → Nat × Nat) (j : Nat) : Value :=
  if j % 4 = 0 then .string (fid fs (j / 4)) else if j % 4 = 1 then .int .i64 (fkd fs (j / 4))
  else if j % 4 = 2 then .slice (some ⟨(ad (j / 4)).1, 0, none⟩) (fps fs (j / 4)).length (fps fs (j / 4)).length
  else .slice (some ⟨(ad (j / 4)).2, 0, none⟩) (fts fs (j / 4)).length (fts fs (j / 4)).length

def zeroF (j : Nat) : Value := if j % 4 = 0 then .string .empty else if j % 4 = 1 then .int .i64 0 else .slice none 0 0

/-- how far a row is filled -/
def filledF (fs : List Ft) (ad : Nat → Nat × Nat) (k j : Nat) : Value := if j < k * 4 then featCell fs ad j else zeroF j

/-- the places, with one more -/
def adSet (ad : Nat → Nat × Nat) (k : Nat) (x : Nat × Nat) : Nat → Nat × Nat := fun i => if i = k then x else ad i

theorem adSet_at (ad : Nat → Nat × Nat) (k : Nat) (x : Nat × Nat) : adSet ad k x k = x := if_pos rfl
theorem adSet_lt {ad : Nat → Nat × Nat} {k i : Nat} {x : Nat × Nat} (h : i < k) : adSet ad k x i = ad i := if_neg (by omega)

theorem filledF_step (fs : List Ft) (ad : Nat → Nat × Nat) (k j p t : Nat) :
    (if j = k * 4 + 3 then .slice (some ⟨t, 0, none⟩) (fts fs k).length (fts fs k).length else if j = k * 4 + 2 then .slice (some ⟨p, 0, none⟩) (fps fs k).length (fps fs k).length else if j = k * 4 + 1 then .int .i64 (fkd fs k) else if j = k * 4 then .string (fid fs k) else filledF fs ad k j) = filledF fs (adSet ad k (p, t)) (k + 1) j := by
  unfold filledF featCell
  by_cases h1 : j = k * 4 + 3
  · subst h1
    rw [if_pos rfl, if_pos (by omega), if_neg (by omega), if_neg (by omega), if_neg (by omega), show (k * 4 + 3) / 4 = k by omega, adSet_at]
  · rw [if_neg h1]
    by_cases h2 : j = k * 4 + 2
    · subst h2
      rw [if_pos rfl, if_pos (by omega), if_neg (by omega), if_neg (by omega), if_pos (by omega), show (k * 4 + 2) / 4 = k by omega, adSet_at]
    · rw [if_neg h2]
      by_cases h3 : j = k * 4 + 1
      · subst h3
        rw [if_pos rfl, if_pos (by omega), if_neg (by omega), if_pos (by omega), show (k * 4 + 1) / 4 = k by omega]
      · rw [if_neg h3]
        by_cases h4 : j = k * 4
        · subst h4
          rw [if_pos rfl, if_pos (by omega), if_pos (by omega), show (k * 4) / 4 = k by omega]
        · rw [if_neg h4]
          by_cases h5 : j < k * 4
          · have h6 : j < (k + 1) * 4 := by omega
            rw [if_pos h5, if_pos h6, adSet_lt (by omega)]
          · rw [if_neg h5, if_neg (by omega)]

theorem made_rowF (w : World) (n : Nat) (t : TypeId) : (w.alloc (.cells (madeCells #[.string .empty, .int .i64 0, .slice none 0 0, .slice none 0 0] (n * 4)) t)).rowIs w.heap.size t (n * 4) zeroF := by
  have hs : (madeCells #[Value.string .empty, .int .i64 0, .slice none 0 0, .slice none 0 0] (n * 4)).size = n * 4 := by simp [madeCells]
  have := World.rowIs_alloc w (madeCells #[.string .empty, .int .i64 0, .slice none 0 0, .slice none 0 0] (n * 4)) t zeroF (by
    intro i hi
    rw [hs] at hi
    simp only [madeCells, Array.getElem?_map, Array.getElem?_range, if_pos hi, Option.map_some]
    have : i % 4 = 0 ∨ i % 4 = 1 ∨ i % 4 = 2 ∨ i % 4 = 3 := by omega
    rcases this with h | h | h | h <;> simp [h, zeroF])
  rwa [hs] at this

/-- the rows of the points and tags of the first things -/
def Parts (w : World) (base : Nat) (fs : List Ft) (ad : Nat → Nat × Nat) (k : Nat) : Prop :=
  ∀ i, i < k → w.rowIs (ad i).1 148 ((fps fs i).length * 2) (ptCell (fps fs i)) ∧ w.rowIs (ad i).2 92 ((fts fs i).length * 2) (tagCell (fts fs i)) ∧ base < (ad i).1 ∧ base < (ad i).2 ∧ (ad i).1 ≠ (ad i).2 ∧ ∀ j, j < i → (ad j).1 < (ad i).1 ∧ (ad j).1 < (ad i).2 ∧ (ad j).2 < (ad i).1 ∧ (ad j).2 < (ad i).2

theorem Parts.below {w w' : World} {base : Nat} {fs : List Ft} {ad : Nat → Nat × Nat} {k : Nat} (h : Parts w base fs ad k) (hb : Below w.heap.size w w') : Parts w' base fs ad k := fun i hi =>
  ⟨(h i hi).1.of_block (hb.block _ (h i hi).1.lt), (h i hi).2.1.of_block (hb.block _ (h i hi).2.1.lt), (h i hi).2.2⟩

theorem Parts.setBase {w : World} {base : Nat} {fs : List Ft} {ad : Nat → Nat × Nat} {k : Nat} (h : Parts w base fs ad k) (o : Nat) (v : Value) : Parts (w.setCell ⟨base, o, none⟩ v) base fs ad k := fun i hi =>
  ⟨(h i hi).1.setOther (by have := (h i hi).2.2.1; show _ ≠ _; simp; omega) _, (h i hi).2.1.setOther (by have := (h i hi).2.2.2.1; show _ ≠ _; simp; omega) _, (h i hi).2.2⟩

/-- what 'toFeatS' answers: a row of its own, with the rows of the parts -/
def NewFeats (w : World) (fs : List Ft) (e : Ending) (w' : World) : Prop :=
  ∃ b ad, e = .returned (.slice (some ⟨b, 0, none⟩) fs.length fs.length) ∧ w'.rowIs b 33 (fs.length * 4) (featCell fs ad) ∧ Parts w' b fs ad fs.length ∧ w.heap.size ≤ b ∧ Below w.heap.size w w'

theorem FeatsAt.of_row {fs : List Ft} {ad : Nat → Nat × Nat} {w : World} {b : Nat} {t : TypeId} (h : w.rowIs b t (fs.length * 4) (featCell fs ad)) (hp : Parts w b fs ad fs.length) : FeatsAt w (some ⟨b, 0, none⟩) fs := by
  intro i hi
  refine ⟨b, 0, some ⟨(ad i).1, 0, none⟩, (fps fs i).length, some ⟨(ad i).2, 0, none⟩, (fts fs i).length, rfl, h.lt, ?_, ?_, ?_, ?_, PtsAt.of_row (hp i hi).1, TagsAt.of_row (hp i hi).2.1⟩
  · have := h.cell (i := i * 4) (by omega)
    rw [Nat.zero_add, this]
    unfold featCell
    rw [if_pos (by omega), show i * 4 / 4 = i by omega]
  · have := h.cell (i := i * 4 + 1) (by omega)
    rw [Nat.zero_add, this]
    unfold featCell
    rw [if_neg (by omega), if_pos (by omega), show (i * 4 + 1) / 4 = i by omega]
  · have := h.cell (i := i * 4 + 2) (by omega)
    rw [Nat.zero_add, this]
    unfold featCell
    rw [if_neg (by omega), if_neg (by omega), if_pos (by omega), show (i * 4 + 2) / 4 = i by omega]
  · have := h.cell (i := i * 4 + 3) (by omega)
    rw [Nat.zero_add, this]
    unfold featCell
    rw [if_neg (by omega), if_neg (by omega), if_neg (by omega), show (i * 4 + 3) / 4 = i by omega]

set_option maxRecDepth 100000 in
set_option maxHeartbeats 2000000 in
theorem toFeatS_any (a : Option Addr) (cap : Nat) (fs : List Ft) (w : World) (hp : FeatsAt w a fs) (hlen : fs.length ≤ 1048576) (hl : FeatsLen fs 1048576) :
    Calls Tryz.prog 42 #[.slice a fs.length cap] w (NewFeats w fs) := by
  obtain ⟨i0, hi, hz0, hz1, hz2⟩ := info_parts infoFeat
  have hmk : ∀ u : World, (Instr.makeSlice 23 (.int .i64 (fs.length : Int)) (.int .i64 (fs.length : Int))).run Tryz.prog u =
      .ok (.slice (some ⟨u.heap.size, 0, none⟩) fs.length fs.length) (u.alloc (.cells (madeCells #[.string .empty, .int .i64 0, .slice none 0 0, .slice none 0 0] (fs.length * 4)) 33)) := fun u => by
    have h := run_make (P := Tryz.prog) u 23 33 i0 (.agg #[.string .empty, .int .i64 0, .slice none 0 0, .slice none 0 0]) Tryz.underlying23 hi hz0 .i64 .i64 (fs.length : Int) (fs.length : Int) (by omega) (Int.le_refl _) (by rw [hz2]; omega) (by omega)
    simpa [hz1, Value.cells] using h
  have H0 := Lib.hid hp
  have HL := Lib.hid hl
  clear hp hz0 hz1 hz2 hi hl
  go_enter Tryz.func42, Tryz.ntmps42
  go_wp2
  clear hmk
  go_loopw [4] (fun i wr => ∃ (k : Nat) (ad : Nat → Nat × Nat), k ≤ fs.length ∧ i = .int .i64 k ∧ wr.rowIs w.heap.size 33 (fs.length * 4) (filledF fs ad k) ∧ Parts wr w.heap.size fs ad k ∧ Below w.heap.size w wr) (fun i _ => fs.length - (intOf i).toNat)
  case atStart =>
    refine ⟨0, fun _ => (0, 0), Nat.zero_le _, rfl, (made_rowF w fs.length _).congr fun i _ => ?_, fun i hi => absurd hi (Nat.not_lt_zero _), (Below.refl _ _).alloc (Nat.le_refl _) _⟩
    unfold filledF
    rw [if_neg (by omega)]
  case round =>
    obtain ⟨k, ad, hk, rfl, hrow, hpar, hbel⟩ := hrel
    by_cases hlt : k < fs.length
    · obtain ⟨b, off, pa, pc, ta, tc, rfl, hb, hc1, hc2, hc3, hc4, hpp, htt⟩ := H0.out k hlt
      rw [← hbel.cell (p := ⟨b, _, none⟩) hb] at hc1 hc2 hc3 hc4
      obtain ⟨l1, l2, l3, l4⟩ := HL.out k hlt
      have HR := Lib.hid hrow
      have HB := Lib.hid hbel
      have HPar := Lib.hid hpar
      have HPP := Lib.hid (hpp.below hbel)
      have HTT := Lib.hid (htt.below hbel)
      have hwlt := hrow.lt
      clear hrow hbel hpar hpp htt l4
      have hsz := HB.out.size
      go_wp2_with fail
      refine (toFeat_any _ _ _ _ _ _ _ _ _ HPP.out HTT.out (by omega) (by omega)).mono ?_
      rintro e w1 ⟨pb, tb, rfl, hr1, hr2, hg1, hg2, hne, hb1⟩
      have hrow1 : w1.rowIs w.heap.size 33 (fs.length * 4) (filledF fs ad k) := HR.out.of_block (hb1.block _ HR.out.lt)
      have hf1 := hrow1.frozen (k * 4)
      have hf2 := hrow1.frozen (k * 4 + 1)
      have hf3 := hrow1.frozen (k * 4 + 2)
      have hf4 := hrow1.frozen (k * 4 + 3)
      have hd1 := hrow1.cell (i := k * 4) (by omega)
      have hd2 := hrow1.cell (i := k * 4 + 1) (by omega)
      have hd3 := hrow1.cell (i := k * 4 + 2) (by omega)
      have hd4 := hrow1.cell (i := k * 4 + 3) (by omega)
      have HR1 := Lib.hid hrow1
      have HB1 := Lib.hid hb1
      have HP1 : Hid (Parts w1 w.heap.size fs (adSet ad k (pb, tb)) (k + 1)) := by
        intro i hi
        by_cases e : i = k
        · subst e
          rw [adSet_at]
          exact ⟨hr1, hr2, by omega, by omega, hne, fun j hj => by
            rw [adSet_lt hj]
            have h1 := (HPar.out j (by omega)).1.lt
            have h2 := (HPar.out j (by omega)).2.1.lt
            omega⟩
        · rw [adSet_lt (by omega)]
          obtain ⟨x1, x2, x3, x4, x5, x6⟩ := HPar.out.below hb1 i (by omega)
          exact ⟨x1, x2, x3, x4, x5, fun j hj => by rw [adSet_lt (by omega)]; exact x6 j hj⟩
      clear hrow1 hb1 hr1 hr2 hc1 hc2 hc3 hc4
      go_wp2
      go_roundw
      case rel =>
        refine ⟨k + 1, adSet ad k (pb, tb), by omega, by go_num, ((((HR1.out.set (k * 4) _).set (k * 4 + 1) _).set (k * 4 + 2) _).set (k * 4 + 3) _).congr fun j _ => filledF_step fs ad k j pb tb, (((HP1.out.setBase _ _).setBase _ _).setBase _ _).setBase _ _, ?_⟩
        exact ((((HB.out.trans (HB1.out.mono hsz)).setCell (Nat.le_refl _) _).setCell (Nat.le_refl _) _).setCell (Nat.le_refl _) _).setCell (Nat.le_refl _) _
      case measure => simp [intOf]; omega
    · have HR := Lib.hid hrow
      have HB := Lib.hid hbel
      have HPar := Lib.hid hpar
      clear hrow hbel hpar
      go_wp2
      go_ret
      obtain rfl : k = fs.length := by omega
      exact ⟨w.heap.size, ad, rfl, HR.out.congr fun j hj => (by unfold filledF; rw [if_pos hj]), HPar.out, Nat.le_refl _, HB.out⟩
end Go.Proofs.YtdfadpejddhbkaaGreat
