/- Proved here: the size, the copy and the comparisons of things on a map answer as they should; rows of at most 1,048,576 points and tags. -/
import Derived.Test.YtdfadpejddhbkaaGreatWShape
import Derived.Test.YtdfadpejddhbkaaGreatWTagEq
namespace Go.Proofs.YtdfadpejddhbkaaGreat
set_option linter.unusedVariables false
open Go.ChangeShapes Go.WideShapes Go.ChangeAt Go.RowKit

/-- what 'szTag' answers -/
def SzTag (x y : ByteArray) (left : Int) (r : Int) : Prop := r = -1 ∨ (0 ≤ r ∧ r ≤ left ∧ (x.size : Int) ≤ left ∧ (y.size : Int) ≤ left)

set_option maxHeartbeats 1000000 in
theorem szTag_any (x y : ByteArray) (left : Int) (w : World) (h0 : 0 ≤ left) (h1 : left ≤ 1048576) (hx : x.size ≤ 9223372036854775807) (hy : y.size ≤ 9223372036854775807) :
    Calls Tryz.prog 171 #[.agg #[.string x, .string y], .int .i64 left] w fun e w' => (∃ r, e = .returned (.int .i64 r) ∧ SzTag x y left r) ∧ Below w.heap.size w w' := by
  by_cases g1 : (x.size : Int) ≤ left
  · by_cases g2 : (y.size : Int) ≤ left - x.size
    · go_enter Tryz.func171, Tryz.ntmps171
      go_wp2
      go_ret
      exact ⟨⟨_, rfl, .inr ⟨by omega, by omega, by omega, by omega⟩⟩, (Below.refl _ _).alloc (Nat.le_refl _) _⟩
    · go_enter Tryz.func171, Tryz.ntmps171
      go_wp2
      go_ret
      exact ⟨⟨_, rfl, .inl rfl⟩, (Below.refl _ _).alloc (Nat.le_refl _) _⟩
  · go_enter Tryz.func171, Tryz.ntmps171
    go_wp2
    go_ret
    exact ⟨⟨_, rfl, .inl rfl⟩, (Below.refl _ _).alloc (Nat.le_refl _) _⟩

/-- the texts of tags are no longer than that -/
def TagsLen (ts : List Tg) (m : Int) : Prop := ∀ j, j < ts.length → ((tk ts j).size : Int) ≤ m ∧ ((tv ts j).size : Int) ≤ m

def SzTags (ts : List Tg) (left : Int) (r : Int) : Prop := r = -1 ∨ (0 ≤ r ∧ r ≤ left ∧ (ts.length : Int) ≤ left ∧ TagsLen ts left)

set_option maxHeartbeats 1000000 in
theorem szTagS_any (a : Option Addr) (cap : Nat) (ts : List Tg) (left : Int) (w : World) (hp : TagsAt w a ts) (hm : ts.length ≤ 9223372036854775807) (hl : TagsLen ts 9223372036854775807) (h0 : 0 ≤ left) (h1 : left ≤ 1048576) :
    Calls Tryz.prog 138 #[.slice a ts.length cap, .int .i64 left] w fun e w' => (∃ r, e = .returned (.int .i64 r) ∧ SzTags ts left r) ∧ Below w.heap.size w w' := by
  have HP := Lib.hid hp
  have HL := Lib.hid hl
  clear hp hl
  by_cases g1 : (ts.length : Int) ≤ left
  · go_enter Tryz.func138, Tryz.ntmps138
    go_wp2
    go_loopw [1, 5] (fun l i wr => ∃ (k : Nat) (r : Int), k ≤ ts.length ∧ i = .int .i64 k ∧ l = .int .i64 r ∧ 0 ≤ r ∧ r ≤ left ∧ Below w.heap.size w wr ∧ ∀ j, j < k → ((tk ts j).size : Int) ≤ left ∧ ((tv ts j).size : Int) ≤ left) (fun _ i _ => ts.length - (intOf i).toNat)
    case atStart => exact ⟨0, left - ts.length, Nat.zero_le _, rfl, by simp, by omega, by omega, Below.refl _ _, fun j h => absurd h (Nat.not_lt_zero _)⟩
    case round =>
      obtain ⟨k, r, hk, rfl, rfl, hr0, hr1, hbel, hall⟩ := hrel
      have HA := Lib.hid hall
      have HB := Lib.hid hbel
      have hsz := hbel.size
      clear hall
      by_cases hlt : k < ts.length
      · obtain ⟨b, off, rfl, hb, hc1, hc2⟩ := HP.out k hlt
        rw [← hbel.cell (p := ⟨b, _, none⟩) hb] at hc1 hc2
        clear hbel
        go_wp2_with fail
        refine (szTag_any _ _ _ _ hr0 (by omega) (by have := (HL.out k hlt).1; omega) (by have := (HL.out k hlt).2; omega)).mono ?_
        rintro e w1 ⟨⟨r', rfl, hs⟩, hb1⟩
        have HB1 := Lib.hid hb1
        clear hb1
        rcases hs with rfl | ⟨g2, g3, g4, g5⟩
        · go_wp2
          go_ret
          exact ⟨⟨_, rfl, .inl rfl⟩, HB.out.trans (HB1.out.mono hsz)⟩
        · go_wp2
          go_roundw
          case rel => exact ⟨k + 1, r', by omega, by go_num, rfl, g2, by omega, HB.out.trans (HB1.out.mono hsz), fun j hj => by by_cases e : j = k; (subst e; exact ⟨by omega, by omega⟩); exact HA.out j (by omega)⟩
          case measure => simp [intOf]; omega
      · obtain rfl : k = ts.length := by omega
        clear hbel
        go_wp2
        go_ret
        exact ⟨⟨_, rfl, .inr ⟨hr0, hr1, g1, HA.out⟩⟩, HB.out⟩
  · go_enter Tryz.func138, Tryz.ntmps138
    go_wp2
    go_ret
    exact ⟨⟨_, rfl, .inl rfl⟩, Below.refl _ _⟩

/-- a thing, as a value -/
def featV (id : ByteArray) (k : Int) (a : Option Addr) (n cap : Nat) (c : Option Addr) (m cap' : Nat) : Value := .agg #[.string id, .int .i64 k, .slice a n cap, .slice c m cap']

/-- what 'szFeat' answers -/
def SzFeat (id : ByteArray) (ps : List (Int × Int)) (ts : List Tg) (left r : Int) : Prop := r = -1 ∨ (0 ≤ r ∧ r ≤ left ∧ (id.size : Int) ≤ left ∧ (ps.length : Int) ≤ left ∧ (ts.length : Int) ≤ left ∧ TagsLen ts left)

/-- a thing of the laws that came in, none of its parts longer than can be -/
structure FeatIn (w : World) (id : ByteArray) (a : Option Addr) (ps : List (Int × Int)) (c : Option Addr) (ts : List Tg) : Prop where
  pts : PtsAt w a ps
  tags : TagsAt w c ts
  idl : id.size ≤ 9223372036854775807
  ptl : ps.length ≤ 9223372036854775807
  tgl : ts.length ≤ 9223372036854775807
  txl : TagsLen ts 9223372036854775807

theorem TagsLen.mono {ts : List Tg} {l m : Int} (h : TagsLen ts l) (hm : l ≤ m) : TagsLen ts m := fun j hj => ⟨Int.le_trans (h j hj).1 hm, Int.le_trans (h j hj).2 hm⟩

set_option maxRecDepth 100000 in
set_option maxHeartbeats 2000000 in
theorem szFeat_any (id : ByteArray) (k : Int) (a : Option Addr) (cap : Nat) (ps : List (Int × Int)) (c : Option Addr) (cap' : Nat) (ts : List Tg) (left : Int) (w : World) (hf : FeatIn w id a ps c ts) (h0 : 0 ≤ left) (h1 : left ≤ 1048576) :
    Calls Tryz.prog 89 #[.agg #[.string id, .int .i64 k, .slice a ps.length cap, .slice c ts.length cap'], .int .i64 left] w fun e w' => (∃ r, e = .returned (.int .i64 r) ∧ SzFeat id ps ts left r) ∧ Below w.heap.size w w' := by
  obtain ⟨hp, ht, g1, g2, g3, g4⟩ := hf
  have HT := Lib.hid ht
  have HL := Lib.hid g4
  clear hp ht g4
  by_cases e1 : (id.size : Int) ≤ left
  · by_cases e2 : (ps.length : Int) ≤ left - id.size
    · go_enter Tryz.func89, Tryz.ntmps89
      go_wp2_with fail
      refine (szShape_fits _ _ _ _ _ _ (by omega) (by omega)).mono ?_
      rintro e w1 ⟨rfl, hb1⟩
      have c3 := cell_later hb1 (a := ⟨w.heap.size, 3, none⟩) (v := .slice c ts.length cap') (by simp [go_sem])
      have B1 : Hid (Below w.heap.size w w1) := ((Below.refl _ _).alloc (Nat.le_refl _) _).trans (hb1.mono (by simp))
      clear hb1
      go_wp2_with fail
      refine (szTagS_any _ _ _ _ _ (HT.out.below B1.out) g3 HL.out (by omega) (by omega)).mono ?_
      rintro e w2 ⟨⟨r, rfl, hs⟩, hb2⟩
      have B2 : Hid (Below w.heap.size w w2) := B1.out.trans (hb2.mono B1.out.size)
      clear hb2 c3
      rcases hs with rfl | ⟨q1, q2, q3, q4⟩
      · go_wp2
        go_ret
        exact ⟨⟨_, rfl, .inl rfl⟩, B2.out⟩
      · have Q4 := Lib.hid q4
        clear q4
        go_wp2
        go_ret
        exact ⟨⟨_, rfl, .inr ⟨q1, by omega, e1, by omega, by omega, Q4.out.mono (by omega)⟩⟩, B2.out⟩
    · go_enter Tryz.func89, Tryz.ntmps89
      go_wp2_with fail
      refine (szShape_over _ _ _ _ _ _ (by omega) (by omega) (by omega) (by unfold maxLen; omega)).mono ?_
      rintro e w1 ⟨rfl, hb1⟩
      have B1 : Hid (Below w.heap.size w w1) := ((Below.refl _ _).alloc (Nat.le_refl _) _).trans (hb1.mono (by simp))
      clear hb1
      go_wp2
      go_ret
      exact ⟨⟨_, rfl, .inl rfl⟩, B1.out⟩
  · go_enter Tryz.func89, Tryz.ntmps89
    go_wp2
    go_ret
    exact ⟨⟨_, rfl, .inl rfl⟩, (Below.refl _ _).alloc (Nat.le_refl _) _⟩
end Go.Proofs.YtdfadpejddhbkaaGreat
