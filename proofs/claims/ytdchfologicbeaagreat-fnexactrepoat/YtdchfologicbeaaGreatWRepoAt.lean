/- Proved here: whether versions and branches are right, and the version of a branch, by the program and by the model; lists of at most 1,048,576. -/
import Derived.Test.YtdchfologicbeaaGreatWRepoOkC
namespace Go.Proofs.YtdchfologicbeaaGreat
set_option linter.unusedVariables false
open Go.ChangeShapes Go.WideShapes Go.ChangeAt Go.RowKit

theorem good_and (cs : List Cm) (hs : List Hd) : repoOk cs hs = (cmsB cs && headsB hs cs.length) := by
  rw [Bool.eq_iff_iff, repoOk_iff]
  simp only [cmsB, headsB, Bool.and_eq_true, decide_eq_true_iff]
  exact ⟨fun g => ⟨⟨g.c1, g.c2, g.cms⟩, ⟨g.h1, g.h2, g.hds⟩⟩, fun g => ⟨g.1.1, g.1.2.1, g.2.1, g.2.2.1, g.1.2.2, g.2.2.2⟩⟩

theorem RepoGood.apart {cs : List Cm} {hs : List Hd} (g : RepoGood cs hs) : Apart hs hs.length := fun i j hj hi => (g.hds i hi).once j hj

set_option maxRecDepth 100000 in
set_option maxHeartbeats 4000000 in
theorem implRepoOk_any (a b : Option Addr) (ca cb : Nat) (cs : List Cm) (hs : List Hd) (w : World) (hr : RepoAt w a b cs hs) (hl : RpLen cs hs 1048576) (hca : cs.length ≤ ca) :
    Calls Tryz.prog 33 #[.agg #[.slice a cs.length ca, .slice b hs.length cb]] w fun e w' => e = .returned (.bool (repoOk cs hs)) ∧ Below w.heap.size w w' := by
  obtain ⟨l1, l2, l3, l4⟩ := hl
  have HR := Lib.hid hr
  have L3 := Lib.hid l3
  have L4 := Lib.hid l4
  clear hr l3 l4
  have A1 : Hid (∀ o, Below w.heap.size w (w.alloc o)) := fun o => (Below.refl _ _).alloc (Nat.le_refl _) _
  go_enter Tryz.func33, Tryz.ntmps33
  go_wp2_with fail
  refine (commitsOk_any _ _ _ _ (HR.out.cms.below (A1.out _)) (by omega) L3.out hca).mono ?_
  rintro e w1 ⟨rfl, hb1⟩
  have c0 := cell_later hb1 (a := ⟨w.heap.size, 0, none⟩) (v := .slice a cs.length ca) (by simp [go_sem])
  have c1 := cell_later hb1 (a := ⟨w.heap.size, 1, none⟩) (v := .slice b hs.length cb) (by simp [go_sem])
  have B1 : Hid (Below w.heap.size w w1) := (A1.out _).trans (hb1.mono (by simp))
  clear hb1
  have HE := Lib.hid (good_and cs hs)
  cases hq : cmsB cs
  · rw [hq] at HE
    go_wp2
    go_ret
    exact ⟨by rw [HE.out]; rfl, B1.out⟩
  · rw [hq] at HE
    clear hq
    go_wp2_with fail
    refine (headsOk_any _ _ _ _ _ (HR.out.hds.below B1.out) (by omega) L4.out (by omega)).mono ?_
    rintro e w2 ⟨rfl, hb2⟩
    have B2 : Hid (Below w.heap.size w w2) := B1.out.trans (hb2.mono B1.out.size)
    clear hb2 c0 c1
    go_wp2
    go_ret
    exact ⟨by rw [HE.out]; rfl, B2.out⟩

/-- the version of a branch -/
noncomputable def atV (cs : List Cm) (hs : List Hd) (x : ByteArray) : Int :=
  if repoOk cs hs then (match lastH hs x hs.length with | some j => hda hs j | none => -1) else -1

set_option maxRecDepth 100000 in
set_option maxHeartbeats 4000000 in
theorem specRepoAt_any (a b : Option Addr) (ca cb : Nat) (cs : List Cm) (hs : List Hd) (x : ByteArray) (w : World) (hr : RepoAt w a b cs hs) (hl : RpLen cs hs 1048576) :
    Calls Tryz.prog 35 #[.agg #[.slice a cs.length ca, .slice b hs.length cb], .string x] w fun e w' => e = .returned (.int .i64 (atV cs hs x)) ∧ Below w.heap.size w w' := by
  have HR := Lib.hid hr
  have HL := Lib.hid hl
  clear hr hl
  have A1 : Hid (∀ o, Below w.heap.size w (w.alloc o)) := fun o => (Below.refl _ _).alloc (Nat.le_refl _) _
  go_enter Tryz.func35, Tryz.ntmps35
  go_wp2_with fail
  refine (l7Head_any _ _ _ _ _ _ _ _ (HR.out.hds.below (A1.out _)) (by have := HL.out.hl; omega)).mono ?_
  rintro e w1 ⟨⟨r, rfl, hr⟩, hb1⟩
  have K1 : Hid (Box2 w1 w.heap.size (.slice a cs.length ca) (.slice b hs.length cb)) := (Box2.new w _ _ _).later hb1
  have B1 : Hid (Below w.heap.size w w1) := (A1.out _).trans (hb1.mono (by simp))
  have R := Lib.hid hr
  clear hb1 hr
  obtain ⟨z0, c0, c1⟩ := K1.out
  go_wp2_with fail
  clear c0 c1
  refine (specRepoOk_any _ _ _ _ _ _ _ (HR.out.below B1.out) HL.out).mono ?_
  rintro e w2 ⟨rfl, hb2⟩
  replace K1 := Lib.hid (K1.out.later hb2)
  have B2 : Hid (Below w.heap.size w w2) := B1.out.trans (hb2.mono B1.out.size)
  have R2 := Lib.hid (HR.out.below B2.out)
  clear hb2 B1
  by_cases hg : RepoGood cs hs
  · rw [repoOk_true hg]
    by_cases h0 : r < 0
    · have HE : Hid (atV cs hs x = -1) := by
        rcases R.out with ⟨_, h⟩ | ⟨k, h1, _⟩
        · have : lastH hs x hs.length = none := by
            cases hq : lastH hs x hs.length with
            | none => rfl
            | some j => obtain ⟨h2, h3, _⟩ := lastH_some hq; exact absurd h3 (h j h2)
          simp [Hid, atV, repoOk_true hg, this]
        · omega
      clear hg
      go_wp2
      go_ret
      exact ⟨by rw [HE.out]; rfl, B2.out⟩
    · obtain ⟨k, rfl, h1, h2, h3⟩ : ∃ k : Nat, r = k ∧ k < hs.length ∧ hdn hs k = x ∧ ∀ j, j < k → hdn hs j ≠ x := by
        rcases R.out with ⟨h, _⟩ | h
        · omega
        · exact h
      have HE : Hid (atV cs hs x = hda hs k) := by simp [Hid, atV, repoOk_true hg, lastH_first hg.apart h1 h2]
      obtain ⟨b', off, e', hb, hc1, hc2⟩ := R2.out.hds k h1
      subst e'
      obtain ⟨z0, c0, c1⟩ := K1.out
      clear hg h2 h3
      go_wp2
      go_ret
      exact ⟨by rw [HE.out]; rfl, B2.out⟩
  · rw [repoOk_false hg]
    have HE : Hid (atV cs hs x = -1) := by simp [Hid, atV, repoOk_false hg]
    clear hg
    go_wp2
    go_ret
    exact ⟨by rw [HE.out]; rfl, B2.out⟩

set_option maxRecDepth 100000 in
set_option maxHeartbeats 4000000 in
theorem implRepoAt_any (a b : Option Addr) (ca cb : Nat) (cs : List Cm) (hs : List Hd) (x : ByteArray) (w : World) (hr : RepoAt w a b cs hs) (hl : RpLen cs hs 1048576) (hca : cs.length ≤ ca) (hx : x.size ≤ 1048576) :
    Calls Tryz.prog 36 #[.agg #[.slice a cs.length ca, .slice b hs.length cb], .string x] w fun e w' => e = .returned (.int .i64 (atV cs hs x)) ∧ Below w.heap.size w w' := by
  have HR := Lib.hid hr
  have HL := Lib.hid hl
  clear hr hl
  have A1 : Hid (∀ o, Below w.heap.size w (w.alloc o)) := fun o => (Below.refl _ _).alloc (Nat.le_refl _) _
  go_enter Tryz.func36, Tryz.ntmps36
  go_wp2_with fail
  refine (implRepoOk_any _ _ _ _ _ _ _ (HR.out.below (A1.out _)) HL.out hca).mono ?_
  rintro e w1 ⟨rfl, hb1⟩
  have K1 : Hid (Box2 w1 w.heap.size (.slice a cs.length ca) (.slice b hs.length cb)) := (Box2.new w _ _ _).later hb1
  have B1 : Hid (Below w.heap.size w w1) := (A1.out _).trans (hb1.mono (by simp))
  clear hb1
  by_cases hg : RepoGood cs hs
  · rw [repoOk_true hg]
    obtain ⟨z0, c0, c1⟩ := K1.out
    go_wp2_with fail
    clear c0 c1
    refine (headsByName_any _ _ _ _ (HR.out.hds.below B1.out) (by have := HL.out.hl; omega) (HL.out.hds.mono (by omega))).mono ?_
    rintro e w2 ⟨rfl, hown, hb2⟩
    replace K1 := Lib.hid (K1.out.later hb2)
    have B2 : Hid (Below w.heap.size w w2) := B1.out.trans (hb2.mono B1.out.size)
    have R2 := Lib.hid (HR.out.below B2.out)
    have hlook := look_head hown x (by unfold maxLen; omega)
    clear hb2 B1 hown
    cases hq : lastH hs x hs.length with
    | none =>
      rw [hq] at hlook
      have HE : Hid (atV cs hs x = -1) := by simp [Hid, atV, repoOk_true hg, hq]
      clear hq hg
      simp only [Option.isSome_none] at hlook
      go_wp2
      go_ret
      exact ⟨by rw [HE.out]; rfl, B2.out⟩
    | some k =>
      rw [hq] at hlook
      have HE : Hid (atV cs hs x = hda hs k) := by simp [Hid, atV, repoOk_true hg, hq]
      obtain ⟨h1, _⟩ := lastH_some hq
      clear hq hg
      simp only [Option.isSome_some] at hlook
      obtain ⟨b', off, e', hb, hc1, hc2⟩ := R2.out.hds k h1
      subst e'
      obtain ⟨z0, c0, c1⟩ := K1.out
      go_wp2
      go_ret
      exact ⟨by rw [HE.out]; rfl, B2.out⟩
  · rw [repoOk_false hg]
    have HE : Hid (atV cs hs x = -1) := by simp [Hid, atV, repoOk_false hg]
    clear hg
    go_wp2
    go_ret
    exact ⟨by rw [HE.out]; rfl, B1.out⟩
end Go.Proofs.YtdchfologicbeaaGreat
