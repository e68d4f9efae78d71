/- Proved here: the size, the copy and the comparison of versions and branches answer as they should; lists of at most 1,048,576. -/
import Derived.Test.YtdchfologicbeaaGreatWRepoArg
import Derived.Test.YtdchfologicbeaaGreatWCommitEq
namespace Go.Proofs.YtdchfologicbeaaGreat
set_option linter.unusedVariables false
open Go.ChangeShapes Go.WideShapes Go.ChangeAt Go.RowKit

/-- no part of versions and branches is longer than that -/
structure RpLen (cs : List Cm) (hs : List Hd) (m : Int) : Prop where
  cl : (cs.length : Int) ≤ m
  hl : (hs.length : Int) ≤ m
  cms : CmsLen cs m
  hds : HeadsLen hs m

def SzRepo (cs : List Cm) (hs : List Hd) (left r : Int) : Prop := r = -1 ∨ (0 ≤ r ∧ r ≤ left ∧ RpLen cs hs left)

set_option maxRecDepth 100000 in
set_option maxHeartbeats 2000000 in
theorem szRepo_any (a b : Option Addr) (ca cb : Nat) (cs : List Cm) (hs : List Hd) (left : Int) (w : World) (hc : CommitsIn w a cs) (hh : HeadsIn w b hs) (h0 : 0 ≤ left) (h1 : left ≤ 1048576) :
    Calls Tryz.prog 30 #[.agg #[.slice a cs.length ca, .slice b hs.length cb], .int .i64 left] w fun e w' => (∃ r, e = .returned (.int .i64 r) ∧ SzRepo cs hs left r) ∧ Below w.heap.size w w' := by
  have HC := Lib.hid hc
  have HH := Lib.hid hh
  clear hc hh
  have A1 : Hid (∀ o, Below w.heap.size w (w.alloc o)) := fun o => (Below.refl _ _).alloc (Nat.le_refl _) _
  go_enter Tryz.func30, Tryz.ntmps30
  go_wp2_with fail
  refine (szCommitS_any _ _ _ _ _ (HC.out.below (A1.out _)) h0 h1).mono ?_
  rintro e w1 ⟨⟨r, rfl, hs'⟩, hb1⟩
  have c1 := cell_later hb1 (a := ⟨w.heap.size, 1, none⟩) (v := .slice b hs.length cb) (by simp [go_sem])
  have B1 : Hid (Below w.heap.size w w1) := (A1.out _).trans (hb1.mono (by simp))
  clear hb1
  rcases hs' with rfl | ⟨q1, q2, q3, q4⟩
  · go_wp2
    go_ret
    exact ⟨⟨_, rfl, .inl rfl⟩, B1.out⟩
  have Q4 := Lib.hid q4
  clear q4
  go_wp2_with fail
  refine (szHeadS_any _ _ _ _ _ (HH.out.below B1.out).reads HH.out.len HH.out.lens q1 (by omega)).mono ?_
  rintro e w2 ⟨⟨r', rfl, hs'⟩, hb2⟩
  have B2 : Hid (Below w.heap.size w w2) := B1.out.trans (hb2.mono B1.out.size)
  clear hb2 c1
  rcases hs' with rfl | ⟨p1, p2, p3, p4⟩
  · go_wp2
    go_ret
    exact ⟨⟨_, rfl, .inl rfl⟩, B2.out⟩
  have P4 := Lib.hid p4
  clear p4
  go_wp2
  go_ret
  exact ⟨⟨_, rfl, .inr ⟨p1, by omega, by omega, by omega, Q4.out, P4.out.mono (by omega)⟩⟩, B2.out⟩

/-- versions and branches that can be read -/
structure RepoAt (w : World) (a b : Option Addr) (cs : List Cm) (hs : List Hd) : Prop where
  cms : CommitsAt w a cs
  hds : HeadsAt w b hs

theorem RepoAt.below {w w' : World} {a b : Option Addr} {cs : List Cm} {hs : List Hd} (h : RepoAt w a b cs hs) (hb : Below w.heap.size w w') : RepoAt w' a b cs hs := ⟨h.cms.below hb, h.hds.below hb⟩

/-- what 'toRepo' answers -/
def NewRepo (w : World) (cs : List Cm) (hs : List Hd) (e : Ending) (w' : World) : Prop :=
  ∃ a ca b cb, e = .returned (.agg #[.slice a cs.length ca, .slice b hs.length cb]) ∧ cs.length ≤ ca ∧ hs.length ≤ cb ∧ RepoAt w' a b cs hs ∧ Below w.heap.size w w'

set_option maxRecDepth 100000 in
set_option maxHeartbeats 4000000 in
theorem toRepo_any (a b : Option Addr) (ca cb : Nat) (cs : List Cm) (hs : List Hd) (w : World) (hc : CommitsAt w a cs) (hh : HeadsAt w b hs) (hl : RpLen cs hs 1048576) :
    Calls Tryz.prog 32 #[.agg #[.slice a cs.length ca, .slice b hs.length cb]] w (NewRepo w cs hs) := by
  obtain ⟨l1, l2, l3, l4⟩ := hl
  have HC := Lib.hid hc
  have HH := Lib.hid hh
  have L3 := Lib.hid l3
  clear hc hh l3 l4
  have A3 : Hid (∀ o o' o'', Below w.heap.size w (((w.alloc o).alloc o').alloc o'')) := fun o o' o'' => (((Below.refl _ _).alloc (Nat.le_refl _) _).alloc (by simp) _).alloc (by simp; omega) _
  go_enter Tryz.func32, Tryz.ntmps32
  go_wp2_with fail
  refine (toCommitS_any _ _ _ _ (HC.out.below (A3.out _ _ _)) (by omega) L3.out).mono ?_
  rintro e w1 ⟨a', ca', rfl, hcap, hU, hbel⟩
  have B1 : Hid (Below w.heap.size w w1) := (A3.out _ _ _).trans (hbel.mono (by simp; omega))
  obtain ⟨hc, hf⟩ := bcell hbel
  have hz := hbel.size
  simp only [World.size_alloc] at hz hU
  have U1 := Lib.hid hU
  clear hU hbel
  have d0 : w1.cell? ⟨w.heap.size + 1 + 1, 0, none⟩ = some (.slice none 0 0) := by rw [hc _ _ (by simp)]; simp [go_sem]
  have d1 : w1.cell? ⟨w.heap.size + 1 + 1, 1, none⟩ = some (.slice none 0 0) := by rw [hc _ _ (by simp)]; simp [go_sem]
  have f0 : w1.frozen? ⟨w.heap.size + 1 + 1, 0, none⟩ = false := by rw [hf _ _ (by simp)]; simp [go_sem]
  have f1 : w1.frozen? ⟨w.heap.size + 1 + 1, 1, none⟩ = false := by rw [hf _ _ (by simp)]; simp [go_sem]
  have g0 : w1.cell? ⟨w.heap.size + 1, 0, none⟩ = some (.slice none 0 0) := by rw [hc _ _ (by simp)]; simp [go_sem]
  have g1 : w1.cell? ⟨w.heap.size + 1, 1, none⟩ = some (.slice none 0 0) := by rw [hc _ _ (by simp)]; simp [go_sem]
  have k0 : w1.frozen? ⟨w.heap.size + 1, 0, none⟩ = false := by rw [hf _ _ (by simp)]; simp [go_sem]
  have k1 : w1.frozen? ⟨w.heap.size + 1, 1, none⟩ = false := by rw [hf _ _ (by simp)]; simp [go_sem]
  have a1 : w1.cell? ⟨w.heap.size, 1, none⟩ = some (.slice b hs.length cb) := by rw [hc _ _ (by simp; omega)]; simp [go_sem]
  clear hc hf
  go_wp2_with fail
  have B2 : Hid (Below w.heap.size w (w1.setCell ⟨w.heap.size + 1 + 1, 0, none⟩ (.slice a' cs.length ca'))) := B1.out.setCell (by simp; omega) _
  refine (toHeadS_any _ _ _ _ (HH.out.below B2.out) (by omega)).mono ?_
  rintro e w2 ⟨b', rfl, hrow2, hb2, hbel2⟩
  have U2 : Hid (CommitsUp w2 (w.heap.size + 1 + 1 + 1) a' cs) := U1.out.step (((Keeps.refl _ _).setCell (by simp) _).trans (Keeps.of hbel2))
  have hb2' : w.heap.size + 1 + 1 + 1 ≤ b' := by simp [World.setCell] at hb2; omega
  have V2 := Lib.hid hrow2
  have B3 : Hid (Below w.heap.size w w2) := B2.out.trans (hbel2.mono B2.out.size)
  have cc : ∀ (b o : Nat), b < w1.heap.size → w2.cell? ⟨b, o, none⟩ = _ := fun b o hb => hbel2.cell (p := ⟨b, o, none⟩) (by simpa [World.setCell] using hb)
  have ff : ∀ (b o : Nat), b < w1.heap.size → w2.frozen? ⟨b, o, none⟩ = _ := fun b o hb => hbel2.frozen (p := ⟨b, o, none⟩) (by simpa [World.setCell] using hb)
  replace d0 : w2.cell? ⟨w.heap.size + 1 + 1, 0, none⟩ = some (.slice a' cs.length ca') := by rw [cc _ _ (by omega)]; simp [go_sem, d0]
  replace d1 : w2.cell? ⟨w.heap.size + 1 + 1, 1, none⟩ = some (.slice none 0 0) := by rw [cc _ _ (by omega)]; simp [go_sem, d1]
  replace f1 : w2.frozen? ⟨w.heap.size + 1 + 1, 1, none⟩ = false := by rw [ff _ _ (by omega)]; simp [go_sem, f1]
  replace g0 : w2.cell? ⟨w.heap.size + 1, 0, none⟩ = some (.slice none 0 0) := by rw [cc _ _ (by omega)]; simp [go_sem, g0]
  replace g1 : w2.cell? ⟨w.heap.size + 1, 1, none⟩ = some (.slice none 0 0) := by rw [cc _ _ (by omega)]; simp [go_sem, g1]
  replace k0 : w2.frozen? ⟨w.heap.size + 1, 0, none⟩ = false := by rw [ff _ _ (by omega)]; simp [go_sem, k0]
  replace k1 : w2.frozen? ⟨w.heap.size + 1, 1, none⟩ = false := by rw [ff _ _ (by omega)]; simp [go_sem, k1]
  clear hbel2 hrow2 hb2 cc ff f0 a1
  go_wp2
  refine bodyPost_ret (v := .agg #[.slice a' cs.length ca', .slice (some ⟨b', 0, none⟩) hs.length hs.length]) (by simp [results, Tryz.results32, go_sem, g0, g1]) rfl ?_
  refine ⟨_, _, _, _, rfl, hcap, Nat.le_refl _, ⟨?_, ?_⟩, ?_⟩
  · exact (U2.out.step ((((Keeps.refl _ _).setCell (by simp) _).setCell (by simp) _).setCell (by simp) _)).at
  · exact HeadsAt.of_row (((V2.out.setOther (by simp; omega) _).setOther (by simp; omega) _).setOther (by simp; omega) _)
  · exact ((B3.out.setCell (by simp; omega) _).setCell (by simp) _).setCell (by simp) _

/-- the box of a room: two cells -/
structure Box2 (w : World) (b : Nat) (v0 v1 : Value) : Prop where
  lt : b < w.heap.size
  c0 : w.cell? ⟨b, 0, none⟩ = some v0
  c1 : w.cell? ⟨b, 1, none⟩ = some v1
theorem Box2.later {w w' : World} {b : Nat} {v0 v1 : Value} (h : Box2 w b v0 v1) (hb : Below w.heap.size w w') : Box2 w' b v0 v1 := ⟨Nat.lt_of_lt_of_le h.lt hb.size, cell_later hb h.c0, cell_later hb h.c1⟩
theorem Box2.new (w : World) (v0 v1 : Value) (t : TypeId) : Box2 (w.alloc (.cells #[v0, v1] t)) w.heap.size v0 v1 := ⟨by simp, by simp [go_sem], by simp [go_sem]⟩

/-- two rooms of versions are one -/
def rpEq (cs ds : List Cm) (hs gs : List Hd) : Bool := cmsEq cs ds && hdsEq hs gs

set_option maxRecDepth 100000 in
set_option maxHeartbeats 2000000 in
theorem eqRepo_any (a b a' b' : Option Addr) (ca cb ca' cb' : Nat) (cs ds : List Cm) (hs gs : List Hd) (w : World) (hr : RepoAt w a b cs hs) (hr' : RepoAt w a' b' ds gs) (hl : RpLen cs hs 1048576) (hl' : RpLen ds gs 1048576) :
    Calls Tryz.prog 34 #[.agg #[.slice a cs.length ca, .slice b hs.length cb], .agg #[.slice a' ds.length ca', .slice b' gs.length cb']] w fun e w' => e = .returned (.bool (rpEq cs ds hs gs)) ∧ Below w.heap.size w w' := by
  obtain ⟨l1, l2, l3, l4⟩ := hl
  obtain ⟨m1, m2, m3, m4⟩ := hl'
  have HR := Lib.hid hr
  have HR' := Lib.hid hr'
  have L3 := Lib.hid l3
  have M3 := Lib.hid m3
  clear hr hr' l3 m3 l4 m4
  have B0 : Hid (∀ o o', Below w.heap.size w ((w.alloc o).alloc o')) := fun o o' => ((Below.refl _ _).alloc (Nat.le_refl _) _).alloc (by simp) _
  go_enter Tryz.func34, Tryz.ntmps34
  go_wp2_with fail
  refine (eqCommitS_any _ _ _ _ _ _ _ (HR.out.cms.below (B0.out _ _)) (HR'.out.cms.below (B0.out _ _)) (by omega) (by omega) L3.out M3.out).mono ?_
  rintro e w1 ⟨rfl, hb1⟩
  have c1 := cell_later hb1 (a := ⟨w.heap.size, 1, none⟩) (v := .slice b hs.length cb) (by simp [go_sem])
  have d1 := cell_later hb1 (a := ⟨w.heap.size + 1, 1, none⟩) (v := .slice b' gs.length cb') (by simp [go_sem])
  have B1 : Hid (Below w.heap.size w w1) := (B0.out _ _).trans (hb1.mono (by simp; omega))
  clear hb1
  by_cases q1 : cmsEq cs ds = true
  · rw [q1]
    have Q1 := Lib.hid q1
    clear q1
    go_wp2_with fail
    refine (eqHeadS_any _ _ _ _ _ _ _ (HR.out.hds.below B1.out) (HR'.out.hds.below B1.out) (by omega) (by omega)).mono ?_
    rintro e w2 ⟨rfl, hb2⟩
    have B2 : Hid (Below w.heap.size w w2) := B1.out.trans (hb2.mono B1.out.size)
    clear hb2 c1 d1
    by_cases q2 : hdsEq hs gs = true
    · rw [q2]
      have HE : Hid (rpEq cs ds hs gs = true) := by rw [Hid]; simp [rpEq, Q1.out, q2]
      clear q2
      go_wp2
      go_ret
      exact ⟨by rw [HE.out]; rfl, B2.out⟩
    · rw [Bool.not_eq_true] at q2
      rw [q2]
      have HE : Hid (rpEq cs ds hs gs = false) := by rw [Hid]; simp [rpEq, q2]
      clear q2
      go_wp2
      go_ret
      exact ⟨by rw [HE.out]; rfl, B2.out⟩
  · rw [Bool.not_eq_true] at q1
    rw [q1]
    have HE : Hid (rpEq cs ds hs gs = false) := by rw [Hid]; simp [rpEq, q1]
    clear q1
    go_wp2
    go_ret
    exact ⟨by rw [HE.out]; rfl, B1.out⟩

theorem rpEq_refl (cs : List Cm) (hs : List Hd) : rpEq cs cs hs hs = true := by simp [rpEq, cmsEq, hdsEq]

end Go.Proofs.YtdchfologicbeaaGreat
