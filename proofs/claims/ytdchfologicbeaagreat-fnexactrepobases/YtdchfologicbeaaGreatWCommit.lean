/- Proved here: what it is that a slice reads as versions; their size and their copy; lists of at most 1,048,576. -/
import Derived.Test.YtdchfologicbeaaGreatWSheet
import Derived.Test.YtdchfologicbeaaGreatWInts
import Derived.Test.YtdchfologicbeaaGreatWHeads
namespace Go.Proofs.YtdchfologicbeaaGreat
set_option linter.unusedVariables false
open Go.ChangeShapes Go.WideShapes Go.ChangeAt Go.RowKit

/-- what stands in the blocks from lo on stands there still -/
structure Keeps (lo : Nat) (w w' : World) : Prop where
  size : w.heap.size ≤ w'.heap.size
  block : ∀ b, lo ≤ b → b < w.heap.size → w'.heap[b]? = w.heap[b]?

theorem Keeps.refl (lo : Nat) (w : World) : Keeps lo w w := ⟨Nat.le_refl _, fun _ _ _ => rfl⟩
theorem Keeps.trans {lo : Nat} {a b c : World} (h : Keeps lo a b) (k : Keeps lo b c) : Keeps lo a c :=
  ⟨Nat.le_trans h.size k.size, fun i hi hl => (k.block i hi (Nat.lt_of_lt_of_le hl h.size)).trans (h.block i hi hl)⟩
theorem Keeps.of {lo : Nat} {w w' : World} (h : Below w.heap.size w w') : Keeps lo w w' := ⟨h.size, fun b _ hb => h.block b hb⟩
theorem Keeps.mono {lo hi : Nat} {w w' : World} (h : Keeps lo w w') (hl : lo ≤ hi) : Keeps hi w w' := ⟨h.size, fun b hb hs => h.block b (Nat.le_trans hl hb) hs⟩
theorem Keeps.setCell {lo : Nat} {a w : World} (h : Keeps lo a w) {p : Addr} (hp : p.block < lo) (u : Value) : Keeps lo a (w.setCell p u) :=
  h.trans ⟨by simp [World.setCell], fun k hk _ => Below.heap_setCell _ _ _ _ (by omega)⟩

/-- numbers that lie from lo on -/
def IntsUp (w : World) (lo : Nat) (a : Option Addr) (is : List Int) : Prop := ∀ w', Keeps lo w w' → IntsAt w' a is
def FeatsUp (w : World) (lo : Nat) (a : Option Addr) (fs : List Ft) : Prop := ∀ w', Keeps lo w w' → FeatsAt w' a fs
theorem IntsUp.at {w : World} {lo : Nat} {a : Option Addr} {is : List Int} (h : IntsUp w lo a is) : IntsAt w a is := h w (Keeps.refl _ _)
theorem FeatsUp.at {w : World} {lo : Nat} {a : Option Addr} {fs : List Ft} (h : FeatsUp w lo a fs) : FeatsAt w a fs := h w (Keeps.refl _ _)
theorem IntsUp.step {w w' : World} {lo : Nat} {a : Option Addr} {is : List Int} (h : IntsUp w lo a is) (k : Keeps lo w w') : IntsUp w' lo a is := fun w2 k2 => h w2 (k.trans k2)
theorem FeatsUp.step {w w' : World} {lo : Nat} {a : Option Addr} {fs : List Ft} (h : FeatsUp w lo a fs) (k : Keeps lo w w') : FeatsUp w' lo a fs := fun w2 k2 => h w2 (k.trans k2)
theorem IntsUp.mono {w : World} {lo lo' : Nat} {a : Option Addr} {is : List Int} (h : IntsUp w lo a is) (hl : lo' ≤ lo) : IntsUp w lo' a is := fun w2 k2 => h w2 (k2.mono hl)
theorem FeatsUp.mono {w : World} {lo lo' : Nat} {a : Option Addr} {fs : List Ft} (h : FeatsUp w lo a fs) (hl : lo' ≤ lo) : FeatsUp w lo' a fs := fun w2 k2 => h w2 (k2.mono hl)
theorem IntsUp.nil (w : World) (lo : Nat) (a : Option Addr) : IntsUp w lo a [] := fun w2 _ => IntsAt.nil w2 a
theorem FeatsUp.nil (w : World) (lo : Nat) (a : Option Addr) : FeatsUp w lo a [] := fun w2 _ => FeatsAt.nil w2 a

theorem IntsUp.of_row {w : World} {lo b : Nat} {t : TypeId} {is : List Int} (h : w.rowIs b t is.length (intCell is)) (hl : lo ≤ b) : IntsUp w lo (some ⟨b, 0, none⟩) is :=
  fun w' k => IntsAt.of_row (h.of_block (k.block b hl h.lt))

theorem FeatsUp.of_row {w : World} {lo b : Nat} {t : TypeId} {fs : List Ft} {ad : Nat → Nat × Nat} (h : w.rowIs b t (fs.length * 4) (featCell fs ad)) (hp : Parts w b fs ad fs.length) (hl : lo ≤ b) : FeatsUp w lo (some ⟨b, 0, none⟩) fs := by
  intro w' k
  refine FeatsAt.of_row (h.of_block (k.block b hl h.lt)) fun i hi => ?_
  obtain ⟨x1, x2, x3, x4, x5⟩ := hp i hi
  exact ⟨x1.of_block (k.block _ (by omega) x1.lt), x2.of_block (k.block _ (by omega) x2.lt), x3, x4, x5⟩

/-- a version: what is ahead of it, its map and its note -/
abbrev Cm := List Int × List Ft × ByteArray

def mg (cs : List Cm) (i : Nat) : Cm := cs.getD i ([], [], .empty)
theorem mg_get {cs : List Cm} {i : Nat} (h : i < cs.length) : mg cs i = cs[i] := by simp [mg, h]

/-- three cells of a block that are a version -/
structure CmAt (w : World) (b o : Nat) (c : Cm) (ua : Option Addr) (uc : Nat) (sa : Option Addr) (sc : Nat) : Prop where
  lt : b < w.heap.size
  c0 : w.cell? ⟨b, o, none⟩ = some (.slice ua c.1.length uc)
  c1 : w.cell? ⟨b, o + 1, none⟩ = some (.slice sa c.2.1.length sc)
  c2 : w.cell? ⟨b, o + 2, none⟩ = some (.string c.2.2)
  ints : IntsAt w ua c.1
  feats : FeatsAt w sa c.2.1

theorem CmAt.below {w w' : World} {b o : Nat} {c : Cm} {ua : Option Addr} {uc : Nat} {sa : Option Addr} {sc : Nat} (x : CmAt w b o c ua uc sa sc) (hb : Below w.heap.size w w') : CmAt w' b o c ua uc sa sc :=
  ⟨Nat.lt_of_lt_of_le x.lt hb.size, cell_later hb x.c0, cell_later hb x.c1, cell_later hb x.c2, x.ints.below hb, x.feats.below hb⟩

/-- a slice that reads as versions -/
def CommitsAt (w : World) (a : Option Addr) (cs : List Cm) : Prop :=
  ∀ i, i < cs.length → ∃ b off ua uc sa sc, a = some ⟨b, off, none⟩ ∧ CmAt w b (off + i * 3) (mg cs i) ua uc sa sc

theorem CommitsAt.nil (w : World) (a : Option Addr) : CommitsAt w a [] := fun _ h => absurd h (Nat.not_lt_zero _)

theorem CommitsAt.below {w w' : World} {a : Option Addr} {cs : List Cm} (h : CommitsAt w a cs) (hb : Below w.heap.size w w') : CommitsAt w' a cs := by
  intro i hi
  obtain ⟨b, off, ua, uc, sa, sc, rfl, x⟩ := h i hi
  exact ⟨b, off, ua, uc, sa, sc, rfl, x.below hb⟩

/-- no part of a version is longer than that -/
def CmLen (c : Cm) (m : Int) : Prop := (c.1.length : Int) ≤ m ∧ (c.2.1.length : Int) ≤ m ∧ FeatsLen c.2.1 m ∧ (c.2.2.size : Int) ≤ m
theorem CmLen.mono {c : Cm} {l m : Int} (h : CmLen c l) (hm : l ≤ m) : CmLen c m := ⟨Int.le_trans h.1 hm, Int.le_trans h.2.1 hm, h.2.2.1.mono hm, Int.le_trans h.2.2.2 hm⟩
def CmsLen (cs : List Cm) (m : Int) : Prop := ∀ j, j < cs.length → CmLen (mg cs j) m
theorem CmsLen.mono {cs : List Cm} {l m : Int} (h : CmsLen cs l) (hm : l ≤ m) : CmsLen cs m := fun j hj => (h j hj).mono hm

/-- a list of versions of the laws that came in, none of its parts longer than can be -/
structure CommitsIn (w : World) (a : Option Addr) (cs : List Cm) : Prop where
  reads : CommitsAt w a cs
  len : cs.length ≤ 9223372036854775807
  lens : CmsLen cs 9223372036854775807

theorem CommitsIn.below {w w' : World} {a : Option Addr} {cs : List Cm} (h : CommitsIn w a cs) (hb : Below w.heap.size w w') : CommitsIn w' a cs := ⟨h.reads.below hb, h.len, h.lens⟩

/-- what 'szCommit' answers -/
def SzCm (c : Cm) (left r : Int) : Prop := r = -1 ∨ (0 ≤ r ∧ r ≤ left ∧ CmLen c left)

set_option maxRecDepth 100000 in
set_option maxHeartbeats 2000000 in
theorem szCommit_any (c : Cm) (ua sa : Option Addr) (uc sc : Nat) (left : Int) (w : World) (hi : IntsAt w ua c.1) (hf : FeatsAt w sa c.2.1) (hl : CmLen c 9223372036854775807) (h0 : 0 ≤ left) (h1 : left ≤ 1048576) :
    Calls Tryz.prog 162 #[.agg #[.slice ua c.1.length uc, .slice sa c.2.1.length sc, .string c.2.2], .int .i64 left] w fun e w' => (∃ r, e = .returned (.int .i64 r) ∧ SzCm c left r) ∧ Below w.heap.size w w' := by
  obtain ⟨l1, l2, l3, l4⟩ := hl
  have HL := Lib.hid l3
  have HF := Lib.hid hf
  clear hf l3 hi
  have A1 : Hid (∀ o, Below w.heap.size w (w.alloc o)) := fun o => (Below.refl _ _).alloc (Nat.le_refl _) _
  by_cases e1 : (c.1.length : Int) ≤ left
  · go_enter Tryz.func162, Tryz.ntmps162
    go_wp2_with fail
    refine (szIntS_fits _ _ _ _ _ e1 h1).mono ?_
    rintro e w1 ⟨rfl, rfl⟩
    go_wp2_with fail
    refine (szFeatS_any _ _ _ _ _ ⟨HF.out.below (A1.out _), by omega, HL.out⟩ (by omega) (by omega)).mono ?_
    rintro e w1 ⟨⟨r, rfl, hs⟩, hb1⟩
    have c2 := cell_later hb1 (a := ⟨w.heap.size, 2, none⟩) (v := .string c.2.2) (by simp [go_sem])
    have B1 : Hid (Below w.heap.size w w1) := (A1.out _).trans (hb1.mono (by simp))
    clear hb1
    rcases hs with rfl | ⟨q1, q2, q3, q4⟩
    · go_wp2
      go_ret
      exact ⟨⟨_, rfl, .inl rfl⟩, B1.out⟩
    · have Q4 := Lib.hid q4
      clear q4
      by_cases e3 : (c.2.2.size : Int) ≤ r
      · go_wp2
        go_ret
        exact ⟨⟨_, rfl, .inr ⟨by omega, by omega, e1, by omega, Q4.out.mono (by omega), by omega⟩⟩, B1.out⟩
      · go_wp2
        go_ret
        exact ⟨⟨_, rfl, .inl rfl⟩, B1.out⟩
  · go_enter Tryz.func162, Tryz.ntmps162
    go_wp2_with fail
    refine (szIntS_over _ _ _ _ _ h0 (by omega) h1 (by unfold maxLen; omega)).mono ?_
    rintro e w1 ⟨rfl, rfl⟩
    go_wp2
    go_ret
    exact ⟨⟨_, rfl, .inl rfl⟩, A1.out _⟩

def SzCms (cs : List Cm) (left : Int) (r : Int) : Prop := r = -1 ∨ (0 ≤ r ∧ r ≤ left ∧ (cs.length : Int) ≤ left ∧ CmsLen cs left)

set_option maxRecDepth 100000 in
set_option maxHeartbeats 2000000 in
theorem szCommitS_any (a : Option Addr) (cap : Nat) (cs : List Cm) (left : Int) (w : World) (hf : CommitsIn w a cs) (h0 : 0 ≤ left) (h1 : left ≤ 1048576) :
    Calls Tryz.prog 93 #[.slice a cs.length cap, .int .i64 left] w fun e w' => (∃ r, e = .returned (.int .i64 r) ∧ SzCms cs left r) ∧ Below w.heap.size w w' := by
  obtain ⟨hp, hm, hl⟩ := hf
  have HP := Lib.hid hp
  have HL := Lib.hid hl
  clear hp hl
  by_cases g1 : (cs.length : Int) ≤ left
  · go_enter Tryz.func93, Tryz.ntmps93
    go_wp2
    go_loopw [1, 5] (fun l i wr => ∃ (k : Nat) (r : Int), k ≤ cs.length ∧ i = .int .i64 k ∧ l = .int .i64 r ∧ 0 ≤ r ∧ r ≤ left ∧ Below w.heap.size w wr ∧ ∀ j, j < k → CmLen (mg cs j) left) (fun _ i _ => cs.length - (intOf i).toNat)
    case atStart => exact ⟨0, left - cs.length, Nat.zero_le _, rfl, by simp, by omega, by omega, Below.refl _ _, fun j h => absurd h (Nat.not_lt_zero _)⟩
    case round =>
      obtain ⟨k, r, hk, rfl, rfl, hr0, hr1, hbel, hall⟩ := hrel
      have HA := Lib.hid hall
      have HB := Lib.hid hbel
      have hsz := hbel.size
      clear hall
      by_cases hlt : k < cs.length
      · obtain ⟨b, off, ua, uc, sa, sc, rfl, hx⟩ := HP.out k hlt
        obtain ⟨hb, c0, c1, c2, hii, hff⟩ := hx.below hbel
        have HI := Lib.hid hii
        have HF := Lib.hid hff
        clear hbel hx hii hff
        go_wp2_with fail
        refine (szCommit_any _ _ _ _ _ _ _ HI.out HF.out (HL.out k hlt) hr0 (by omega)).mono ?_
        rintro e w1 ⟨⟨r', rfl, hs⟩, hb1⟩
        have B1 : Hid (Below w.heap.size w w1) := HB.out.trans (hb1.mono hsz)
        clear hb1 c0 c1 c2
        rcases hs with rfl | ⟨g2, g3, g4⟩
        · go_wp2
          go_ret
          exact ⟨⟨_, rfl, .inl rfl⟩, B1.out⟩
        · have G4 := Lib.hid g4
          clear g4
          go_wp2
          go_roundw
          case rel => exact ⟨k + 1, r', by omega, by go_num, rfl, g2, by omega, B1.out, fun j hj => by by_cases e : j = k; (subst e; exact G4.out.mono (by omega)); exact HA.out j (by omega)⟩
          case measure => simp [intOf]; omega
      · obtain rfl : k = cs.length := by omega
        clear hbel
        go_wp2
        go_ret
        exact ⟨⟨_, rfl, .inr ⟨hr0, hr1, g1, HA.out⟩⟩, HB.out⟩
  · go_enter Tryz.func93, Tryz.ntmps93
    go_wp2
    go_ret
    exact ⟨⟨_, rfl, .inl rfl⟩, Below.refl _ _⟩

/-- what 'toCommit' answers: a version whose parts lie in memory of their own -/
def NewCommit (w : World) (c : Cm) (e : Ending) (w' : World) : Prop :=
  ∃ ua uc sa sc, e = .returned (.agg #[.slice ua c.1.length uc, .slice sa c.2.1.length sc, .string c.2.2]) ∧ IntsUp w' (w.heap.size + 3) ua c.1 ∧ FeatsUp w' (w.heap.size + 3) sa c.2.1 ∧ Below w.heap.size w w'

set_option maxRecDepth 100000 in
set_option maxHeartbeats 4000000 in
theorem toCommit_any (c : Cm) (ua sa : Option Addr) (uc sc : Nat) (w : World) (hi : IntsAt w ua c.1) (hf : FeatsAt w sa c.2.1) (hl : CmLen c 1048576) :
    Calls Tryz.prog 165 #[.agg #[.slice ua c.1.length uc, .slice sa c.2.1.length sc, .string c.2.2]] w (NewCommit w c) := by
  obtain ⟨l1, l2, l3, l4⟩ := hl
  have HP := Lib.hid hi
  have HT := Lib.hid hf
  have HL := Lib.hid l3
  clear hi hf l3
  have A3 : Hid (∀ o o' o'', Below w.heap.size w (((w.alloc o).alloc o').alloc o'')) := fun o o' o'' => (((Below.refl _ _).alloc (Nat.le_refl _) _).alloc (by simp) _).alloc (by simp; omega) _
  go_enter Tryz.func165, Tryz.ntmps165
  go_wp2_with fail
  refine (toIntS_any _ _ _ _ (HP.out.below (A3.out _ _ _)) (by omega)).mono ?_
  rintro e w1 ⟨b, rfl, hrow, hb, hbel⟩
  have B1 : Hid (Below w.heap.size w w1) := (A3.out _ _ _).trans (hbel.mono (by simp; omega))
  obtain ⟨hc, hf⟩ := bcell hbel
  have hz := hbel.size
  simp only [World.size_alloc] at hz hb
  have U1 : Hid (IntsUp w1 (w.heap.size + 3) (some ⟨b, 0, none⟩) c.1) := IntsUp.of_row hrow (by omega)
  clear hrow hbel
  have d0 : w1.cell? ⟨w.heap.size + 1 + 1, 0, none⟩ = some (.slice none 0 0) := by rw [hc _ _ (by simp)]; simp [go_sem]
  have d1 : w1.cell? ⟨w.heap.size + 1 + 1, 1, none⟩ = some (.slice none 0 0) := by rw [hc _ _ (by simp)]; simp [go_sem]
  have d2 : w1.cell? ⟨w.heap.size + 1 + 1, 2, none⟩ = some (.string ⟨#[]⟩) := by rw [hc _ _ (by simp)]; simp [go_sem]
  have f0 : w1.frozen? ⟨w.heap.size + 1 + 1, 0, none⟩ = false := by rw [hf _ _ (by simp)]; simp [go_sem]
  have f1 : w1.frozen? ⟨w.heap.size + 1 + 1, 1, none⟩ = false := by rw [hf _ _ (by simp)]; simp [go_sem]
  have f2 : w1.frozen? ⟨w.heap.size + 1 + 1, 2, none⟩ = false := by rw [hf _ _ (by simp)]; simp [go_sem]
  have g0 : w1.cell? ⟨w.heap.size + 1, 0, none⟩ = some (.slice none 0 0) := by rw [hc _ _ (by simp)]; simp [go_sem]
  have g1 : w1.cell? ⟨w.heap.size + 1, 1, none⟩ = some (.slice none 0 0) := by rw [hc _ _ (by simp)]; simp [go_sem]
  have g2 : w1.cell? ⟨w.heap.size + 1, 2, none⟩ = some (.string ⟨#[]⟩) := by rw [hc _ _ (by simp)]; simp [go_sem]
  have k0 : w1.frozen? ⟨w.heap.size + 1, 0, none⟩ = false := by rw [hf _ _ (by simp)]; simp [go_sem]
  have k1 : w1.frozen? ⟨w.heap.size + 1, 1, none⟩ = false := by rw [hf _ _ (by simp)]; simp [go_sem]
  have k2 : w1.frozen? ⟨w.heap.size + 1, 2, none⟩ = false := by rw [hf _ _ (by simp)]; simp [go_sem]
  have a1 : w1.cell? ⟨w.heap.size, 1, none⟩ = some (.slice sa c.2.1.length sc) := by rw [hc _ _ (by simp; omega)]; simp [go_sem]
  have a2 : w1.cell? ⟨w.heap.size, 2, none⟩ = some (.string c.2.2) := by rw [hc _ _ (by simp; omega)]; simp [go_sem]
  clear hc hf
  go_wp2_with fail
  have B2 : Hid (Below w.heap.size w (w1.setCell ⟨w.heap.size + 1 + 1, 0, none⟩ (.slice (some ⟨b, 0, none⟩) c.1.length c.1.length))) := B1.out.setCell (by simp; omega) _
  refine (toFeatS_any _ _ _ _ (HT.out.below B2.out) (by omega) HL.out).mono ?_
  rintro e w2 ⟨b', ad, rfl, hrow2, hpar2, hb2, hbel2⟩
  have U2 : Hid (IntsUp w2 (w.heap.size + 3) (some ⟨b, 0, none⟩) c.1) := U1.out.step (((Keeps.refl _ _).setCell (by simp) _).trans (Keeps.of hbel2))
  have hb2' : w.heap.size + 3 ≤ b' := by simp [World.setCell] at hb2; omega
  have V2 : Hid (FeatsUp w2 (w.heap.size + 3) (some ⟨b', 0, none⟩) c.2.1) := FeatsUp.of_row hrow2 hpar2 hb2'
  have B3 : Hid (Below w.heap.size w w2) := B2.out.trans (hbel2.mono B2.out.size)
  have cc : ∀ (b o : Nat), b < w1.heap.size → w2.cell? ⟨b, o, none⟩ = _ := fun b o hb => hbel2.cell (p := ⟨b, o, none⟩) (by simpa [World.setCell] using hb)
  have ff : ∀ (b o : Nat), b < w1.heap.size → w2.frozen? ⟨b, o, none⟩ = _ := fun b o hb => hbel2.frozen (p := ⟨b, o, none⟩) (by simpa [World.setCell] using hb)
  replace d0 : w2.cell? ⟨w.heap.size + 1 + 1, 0, none⟩ = some (.slice (some ⟨b, 0, none⟩) c.1.length c.1.length) := by rw [cc _ _ (by omega)]; simp [go_sem, d0]
  replace d1 : w2.cell? ⟨w.heap.size + 1 + 1, 1, none⟩ = some (.slice none 0 0) := by rw [cc _ _ (by omega)]; simp [go_sem, d1]
  replace d2 : w2.cell? ⟨w.heap.size + 1 + 1, 2, none⟩ = some (.string ⟨#[]⟩) := by rw [cc _ _ (by omega)]; simp [go_sem, d2]
  replace f1 : w2.frozen? ⟨w.heap.size + 1 + 1, 1, none⟩ = false := by rw [ff _ _ (by omega)]; simp [go_sem, f1]
  replace f2 : w2.frozen? ⟨w.heap.size + 1 + 1, 2, none⟩ = false := by rw [ff _ _ (by omega)]; simp [go_sem, f2]
  replace g0 : w2.cell? ⟨w.heap.size + 1, 0, none⟩ = some (.slice none 0 0) := by rw [cc _ _ (by omega)]; simp [go_sem, g0]
  replace g1 : w2.cell? ⟨w.heap.size + 1, 1, none⟩ = some (.slice none 0 0) := by rw [cc _ _ (by omega)]; simp [go_sem, g1]
  replace g2 : w2.cell? ⟨w.heap.size + 1, 2, none⟩ = some (.string ⟨#[]⟩) := by rw [cc _ _ (by omega)]; simp [go_sem, g2]
  replace k0 : w2.frozen? ⟨w.heap.size + 1, 0, none⟩ = false := by rw [ff _ _ (by omega)]; simp [go_sem, k0]
  replace k1 : w2.frozen? ⟨w.heap.size + 1, 1, none⟩ = false := by rw [ff _ _ (by omega)]; simp [go_sem, k1]
  replace k2 : w2.frozen? ⟨w.heap.size + 1, 2, none⟩ = false := by rw [ff _ _ (by omega)]; simp [go_sem, k2]
  replace a2 : w2.cell? ⟨w.heap.size, 2, none⟩ = some (.string c.2.2) := by rw [cc _ _ (by omega)]; simp [go_sem, a2]
  clear hbel2 hrow2 hpar2 hb2 cc ff f0 a1
  go_wp2
  refine bodyPost_ret (v := .agg #[.slice (some ⟨b, 0, none⟩) c.1.length c.1.length, .slice (some ⟨b', 0, none⟩) c.2.1.length c.2.1.length, .string c.2.2]) (by simp [results, Tryz.results165, go_sem, g0, g1, g2]) rfl ?_
  have K : ∀ v1 v2 v3 v4 v5, Keeps (w.heap.size + 3) w2 (((((w2.setCell ⟨w.heap.size + 1 + 1, 1, none⟩ v1).setCell ⟨w.heap.size + 1 + 1, 2, none⟩ v2).setCell ⟨w.heap.size + 1, 0, none⟩ v3).setCell ⟨w.heap.size + 1, 1, none⟩ v4).setCell ⟨w.heap.size + 1, 2, none⟩ v5) := fun v1 v2 v3 v4 v5 =>
    (((((Keeps.refl _ _).setCell (by simp) _).setCell (by simp) _).setCell (by simp) _).setCell (by simp) _).setCell (by simp) _
  refine ⟨_, _, _, _, rfl, U2.out.step (K _ _ _ _ _), V2.out.step (K _ _ _ _ _), ?_⟩
  exact ((((B3.out.setCell (by simp; omega) _).setCell (by simp; omega) _).setCell (by simp) _).setCell (by simp) _).setCell (by simp) _

theorem infoCommit : (Tryz.prog.info? 132).map (fun i => (i.zero, i.size, i.bytes)) = some (some (.agg #[.slice none 0 0, .slice none 0 0, .string .empty]), 3, 64) := by kernel_rfl

/-- the places of the two parts of a version -/
abbrev Pl2 := (Option Addr × Nat) × (Option Addr × Nat)

/-- a versions' cell by its place; the rows of the parts lie where 'ad' says -/
def commitCell (cs : List Cm) (ad : Nat → Pl2) (j : Nat) : Value :=
  if j % 3 = 0 then .slice (ad (j / 3)).1.1 (mg cs (j / 3)).1.length (ad (j / 3)).1.2
  else if j % 3 = 1 then .slice (ad (j / 3)).2.1 (mg cs (j / 3)).2.1.length (ad (j / 3)).2.2
  else .string (mg cs (j / 3)).2.2

def zeroC (j : Nat) : Value := if j % 3 = 2 then .string .empty else .slice none 0 0

/-- how far a row is filled -/
def filledC (cs : List Cm) (ad : Nat → Pl2) (k j : Nat) : Value := if j < k * 3 then commitCell cs ad j else zeroC j

/-- the places, with one more -/
def pl2Set (ad : Nat → Pl2) (k : Nat) (x : Pl2) : Nat → Pl2 := fun i => if i = k then x else ad i
theorem pl2Set_at (ad : Nat → Pl2) (k : Nat) (x : Pl2) : pl2Set ad k x k = x := if_pos rfl
theorem pl2Set_lt {ad : Nat → Pl2} {k i : Nat} {x : Pl2} (h : i < k) : pl2Set ad k x i = ad i := if_neg (by omega)

theorem filledC_step (cs : List Cm) (ad : Nat → Pl2) (k j : Nat) (x : Pl2) :
    (if j = k * 3 + 2 then .string (mg cs k).2.2 else if j = k * 3 + 1 then .slice x.2.1 (mg cs k).2.1.length x.2.2 else if j = k * 3 then .slice x.1.1 (mg cs k).1.length x.1.2 else filledC cs ad k j) = filledC cs (pl2Set ad k x) (k + 1) j := by
  unfold filledC commitCell
  by_cases h1 : j = k * 3 + 2
  · subst h1
    rw [if_pos rfl, if_pos (by omega), if_neg (by omega), if_neg (by omega), show (k * 3 + 2) / 3 = k by omega]
  · rw [if_neg h1]
    by_cases h2 : j = k * 3 + 1
    · subst h2
      rw [if_pos rfl, if_pos (by omega), if_neg (by omega), if_pos (by omega), show (k * 3 + 1) / 3 = k by omega, pl2Set_at]
    · rw [if_neg h2]
      by_cases h3 : j = k * 3
      · subst h3
        rw [if_pos rfl, if_pos (by omega), if_pos (by omega), show (k * 3) / 3 = k by omega, pl2Set_at]
      · rw [if_neg h3]
        by_cases h5 : j < k * 3
        · have h6 : j < (k + 1) * 3 := by omega
          rw [if_pos h5, if_pos h6, pl2Set_lt (by omega)]
        · rw [if_neg h5, if_neg (by omega)]

theorem made_rowC (w : World) (n : Nat) (t : TypeId) : (w.alloc (.cells (madeCells #[.slice none 0 0, .slice none 0 0, .string .empty] (n * 3)) t)).rowIs w.heap.size t (n * 3) zeroC := by
  have hs : (madeCells #[Value.slice none 0 0, .slice none 0 0, .string .empty] (n * 3)).size = n * 3 := by simp [madeCells]
  have := World.rowIs_alloc w (madeCells #[.slice none 0 0, .slice none 0 0, .string .empty] (n * 3)) t zeroC (by
    intro i hi
    rw [hs] at hi
    simp only [madeCells, Array.getElem?_map, Array.getElem?_range, if_pos hi, Option.map_some]
    have : i % 3 = 0 ∨ i % 3 = 1 ∨ i % 3 = 2 := by omega
    rcases this with h | h | h <;> simp [h, zeroC])
  rwa [hs] at this

/-- the parts of the first versions lie from lo on -/
def PartsC (w : World) (lo : Nat) (cs : List Cm) (ad : Nat → Pl2) (k : Nat) : Prop :=
  ∀ i, i < k → IntsUp w lo (ad i).1.1 (mg cs i).1 ∧ FeatsUp w lo (ad i).2.1 (mg cs i).2.1

theorem PartsC.step {w w' : World} {lo : Nat} {cs : List Cm} {ad : Nat → Pl2} {k : Nat} (h : PartsC w lo cs ad k) (kp : Keeps lo w w') : PartsC w' lo cs ad k := fun i hi => ⟨(h i hi).1.step kp, (h i hi).2.step kp⟩

theorem CommitsAt.of_row {cs : List Cm} {ad : Nat → Pl2} {w : World} {b lo : Nat} {t : TypeId} (h : w.rowIs b t (cs.length * 3) (commitCell cs ad)) (hp : PartsC w lo cs ad cs.length) : CommitsAt w (some ⟨b, 0, none⟩) cs := by
  intro i hi
  refine ⟨b, 0, (ad i).1.1, (ad i).1.2, (ad i).2.1, (ad i).2.2, rfl, h.lt, ?_, ?_, ?_, (hp i hi).1.at, (hp i hi).2.at⟩
  · have := h.cell (i := i * 3) (by omega)
    rw [Nat.zero_add, this]
    unfold commitCell
    rw [if_pos (by omega), show i * 3 / 3 = i by omega]
  · have := h.cell (i := i * 3 + 1) (by omega)
    rw [Nat.zero_add, this]
    unfold commitCell
    rw [if_neg (by omega), if_pos (by omega), show (i * 3 + 1) / 3 = i by omega]
  · have := h.cell (i := i * 3 + 2) (by omega)
    rw [Nat.zero_add, this]
    unfold commitCell
    rw [if_neg (by omega), if_neg (by omega), show (i * 3 + 2) / 3 = i by omega]

/-- versions that lie from lo on -/
def CommitsUp (w : World) (lo : Nat) (a : Option Addr) (cs : List Cm) : Prop := ∀ w', Keeps lo w w' → CommitsAt w' a cs
theorem CommitsUp.at {w : World} {lo : Nat} {a : Option Addr} {cs : List Cm} (h : CommitsUp w lo a cs) : CommitsAt w a cs := h w (Keeps.refl _ _)
theorem CommitsUp.step {w w' : World} {lo : Nat} {a : Option Addr} {cs : List Cm} (h : CommitsUp w lo a cs) (k : Keeps lo w w') : CommitsUp w' lo a cs := fun w2 k2 => h w2 (k.trans k2)
theorem CommitsUp.of_row {cs : List Cm} {ad : Nat → Pl2} {w : World} {b lo : Nat} {t : TypeId} (h : w.rowIs b t (cs.length * 3) (commitCell cs ad)) (hp : PartsC w lo cs ad cs.length) (hl : lo ≤ b) : CommitsUp w lo (some ⟨b, 0, none⟩) cs :=
  fun w' k => CommitsAt.of_row (h.of_block (k.block b hl h.lt)) (hp.step k)

/-- what 'toCommitS' answers: a list of its own -/
def NewCommits (w : World) (cs : List Cm) (e : Ending) (w' : World) : Prop :=
  ∃ a cap, e = .returned (.slice a cs.length cap) ∧ cs.length ≤ cap ∧ CommitsUp w' w.heap.size a cs ∧ Below w.heap.size w w'

set_option maxRecDepth 100000 in
set_option maxHeartbeats 4000000 in
theorem toCommitS_any (a : Option Addr) (cap : Nat) (cs : List Cm) (w : World) (hp : CommitsAt w a cs) (hlen : cs.length ≤ 1048576) (hl : CmsLen cs 1048576) :
    Calls Tryz.prog 100 #[.slice a cs.length cap] w (NewCommits w cs) := by
  obtain ⟨i0, hi, hz0, hz1, hz2⟩ := info_parts infoCommit
  have hmk : ∀ u : World, (Instr.makeSlice 59 (.int .i64 (cs.length : Int)) (.int .i64 (cs.length : Int))).run Tryz.prog u =
      .ok (.slice (some ⟨u.heap.size, 0, none⟩) cs.length cs.length) (u.alloc (.cells (madeCells #[.slice none 0 0, .slice none 0 0, .string .empty] (cs.length * 3)) 132)) := fun u => by
    have h := run_make (P := Tryz.prog) u 59 132 i0 (.agg #[.slice none 0 0, .slice none 0 0, .string .empty]) Tryz.underlying59 hi hz0 .i64 .i64 (cs.length : Int) (cs.length : Int) (by omega) (Int.le_refl _) (by rw [hz2]; omega) (by omega)
    simpa [hz1, Value.cells] using h
  have H0 := Lib.hid hp
  have HL := Lib.hid hl
  clear hp hz0 hz1 hz2 hi hl
  go_enter Tryz.func100, Tryz.ntmps100
  go_wp2
  clear hmk
  go_loopw [4] (fun i wr => ∃ (k : Nat) (ad : Nat → Pl2), k ≤ cs.length ∧ i = .int .i64 k ∧ wr.rowIs w.heap.size 132 (cs.length * 3) (filledC cs ad k) ∧ PartsC wr (w.heap.size + 1) cs ad k ∧ Below w.heap.size w wr) (fun i _ => cs.length - (intOf i).toNat)
  case atStart =>
    refine ⟨0, fun _ => ((none, 0), (none, 0)), Nat.zero_le _, rfl, (made_rowC w cs.length _).congr fun i _ => ?_, fun i hi => absurd hi (Nat.not_lt_zero _), (Below.refl _ _).alloc (Nat.le_refl _) _⟩
    unfold filledC
    rw [if_neg (by omega)]
  case round =>
    obtain ⟨k, ad, hk, rfl, hrow, hpar, hbel⟩ := hrel
    by_cases hlt : k < cs.length
    · obtain ⟨b, off, ua, uc, sa, sc, rfl, hx⟩ := H0.out k hlt
      obtain ⟨hb, c0, c1, c2, hii, hff⟩ := hx.below hbel
      have HR := Lib.hid hrow
      have HB := Lib.hid hbel
      have HPar := Lib.hid hpar
      have HII := Lib.hid hii
      have HFF := Lib.hid hff
      have hwlt := hrow.lt
      clear hrow hbel hpar hii hff hx
      have hsz := HB.out.size
      go_wp2_with fail
      refine (toCommit_any _ _ _ _ _ _ HII.out HFF.out (HL.out k hlt)).mono ?_
      rintro e w1 ⟨ua', uc', sa', sc', rfl, hU, hV, hb1⟩
      have hrow1 : w1.rowIs w.heap.size 132 (cs.length * 3) (filledC cs ad k) := HR.out.of_block (hb1.block _ HR.out.lt)
      have hf1 := hrow1.frozen (k * 3)
      have hf2 := hrow1.frozen (k * 3 + 1)
      have hf3 := hrow1.frozen (k * 3 + 2)
      have hd1 := hrow1.cell (i := k * 3) (by omega)
      have hd2 := hrow1.cell (i := k * 3 + 1) (by omega)
      have hd3 := hrow1.cell (i := k * 3 + 2) (by omega)
      have HR1 := Lib.hid hrow1
      have HB1 := Lib.hid hb1
      have HP1 : Hid (PartsC w1 (w.heap.size + 1) cs (pl2Set ad k ((ua', uc'), (sa', sc'))) (k + 1)) := by
        intro i hi
        by_cases e : i = k
        · subst e
          rw [pl2Set_at]
          exact ⟨hU.mono (by omega), hV.mono (by omega)⟩
        · rw [pl2Set_lt (by omega)]
          exact HPar.out.step (Keeps.of hb1) i (by omega)
      clear hrow1 hb1 hU hV c0 c1 c2
      go_wp2
      go_roundw
      case rel =>
        refine ⟨k + 1, pl2Set ad k ((ua', uc'), (sa', sc')), by omega, by go_num, (((HR1.out.set (k * 3) _).set (k * 3 + 1) _).set (k * 3 + 2) _).congr fun j _ => filledC_step cs ad k j ((ua', uc'), (sa', sc')), HP1.out.step ((((Keeps.refl _ _).setCell (by simp) _).setCell (by simp) _).setCell (by simp) _), ?_⟩
        exact (((HB.out.trans (HB1.out.mono hsz)).setCell (Nat.le_refl _) _).setCell (Nat.le_refl _) _).setCell (Nat.le_refl _) _
      case measure => simp [intOf]; omega
    · have HR := Lib.hid hrow
      have HB := Lib.hid hbel
      have HPar := Lib.hid hpar
      clear hrow hbel hpar
      go_wp2
      go_ret
      obtain rfl : k = cs.length := by omega
      refine ⟨_, _, rfl, Nat.le_refl _, CommitsUp.of_row (ad := ad) (HR.out.congr fun j hj => (by unfold filledC; rw [if_pos hj])) (fun i hi => ⟨(HPar.out i hi).1.mono (by omega), (HPar.out i hi).2.mono (by omega)⟩) (Nat.le_refl _), HB.out⟩
end Go.Proofs.YtdchfologicbeaaGreat
