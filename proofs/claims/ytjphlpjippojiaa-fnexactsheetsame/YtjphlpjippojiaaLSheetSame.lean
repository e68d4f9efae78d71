/- Proved here: the law FnExactSheetSame answers true at every two lists of things, and leaves them as they were; no condition. -/
import Derived.Test.YtjphlpjippojiaaWSheetArg
import Derived.Test.YtjphlpjippojiaaWSheetSameI
import Derived.Deep.RegionHeld3
import Derived.Deep.DeepCutAuto
namespace Go.Proofs.Ytjphlpjippojiaa
set_option linter.unusedVariables false
open Go.ChangeShapes Go.WideShapes Go.ChangeAt Go.RowKit

set_option maxRecDepth 100000 in
set_option maxHeartbeats 6400000 in
theorem fnSheetSame_walk (a : Option Addr) (cap : Nat) (fs : List Ft) (a' : Option Addr) (cap' : Nat) (gs : List Ft) (w : World) (hf : FeatsIn w a fs) (hg : FeatsIn w a' gs) :
    Calls Try.prog 7 #[.slice a fs.length cap, .slice a' gs.length cap'] w fun e w' => e = .returned (.bool true) ∧ Below w.heap.size w w' := by
  have HF := Lib.hid hf
  have HG := Lib.hid hg
  clear hf hg
  go_enter Try.func7, Try.ntmps7
  go_wp2_with fail
  refine (szFeatS_any _ _ _ _ _ HF.out (by omega) (by omega)).mono ?_
  rintro e w1 ⟨⟨r, rfl, hs⟩, hb1⟩
  have B1 := Lib.hid hb1
  clear hb1
  rcases hs with rfl | ⟨r0, r1, l1, l2⟩
  · go_wp2
    go_ret
    exact ⟨rfl, B1.out⟩
  have L2 : Hid (FeatsLen fs 1048576) := l2.mono (by omega)
  clear l2
  go_wp2_with fail
  refine (szFeatS_any _ _ _ _ _ (HG.out.below B1.out) (by omega) (by omega)).mono ?_
  rintro e w2 ⟨⟨r', rfl, hs⟩, hb2⟩
  have B2 : Hid (Below w.heap.size w w2) := B1.out.trans (hb2.mono B1.out.size)
  clear hb2 B1
  rcases hs with rfl | ⟨r0', r1', l1', l2'⟩
  · go_wp2
    go_ret
    exact ⟨rfl, B2.out⟩
  have L2' : Hid (FeatsLen gs 1048576) := l2'.mono (by omega)
  clear l2'
  have m1 : fs.length ≤ 1048576 := by omega
  have m2 : gs.length ≤ 1048576 := by omega
  go_wp2_with fail
  refine (toFeatS_any a cap fs _ (HF.out.reads.below B2.out) m1 L2.out).mono ?_
  rintro e u1 ⟨bu1, adu1, rfl, ru1, pu1, hbu1, hn⟩
  have Bu1 : Hid (Below w.heap.size w u1) := B2.out.trans (hn.mono B2.out.size)
  have Hu1 := Lib.hid (FeatsAt.of_row ru1 pu1)
  clear hn ru1 pu1 hbu1 B2
  go_wp2_with fail
  refine (toFeatS_any a' cap' gs _ (HG.out.reads.below Bu1.out) m2 L2'.out).mono ?_
  rintro e u2 ⟨bu2, adu2, rfl, ru2, pu2, hbu2, hn⟩
  have Bu2 : Hid (Below w.heap.size w u2) := Bu1.out.trans (hn.mono Bu1.out.size)
  have Hu2 := Lib.hid (FeatsAt.of_row ru2 pu2)
  replace Hu1 := Lib.hid (Hu1.out.below hn)
  clear hn ru2 pu2 hbu2 Bu1
  go_wp2_with fail
  refine (specSheetSame_any _ _ _ _ fs gs _ Hu1.out Hu2.out m1 m2 L2.out L2'.out).mono ?_
  rintro e u3 ⟨rfl, hn⟩
  have Bu3 : Hid (Below w.heap.size w u3) := Bu2.out.trans (hn.mono Bu2.out.size)
  clear hn Bu2 Hu1 Hu2
  go_wp2_with fail
  refine (toFeatS_any a cap fs _ (HF.out.reads.below Bu3.out) m1 L2.out).mono ?_
  rintro e u4 ⟨bu4, adu4, rfl, ru4, pu4, hbu4, hn⟩
  have Bu4 : Hid (Below w.heap.size w u4) := Bu3.out.trans (hn.mono Bu3.out.size)
  have Hu4 := Lib.hid (FeatsAt.of_row ru4 pu4)
  clear hn ru4 pu4 hbu4 Bu3
  go_wp2_with fail
  refine (toFeatS_any a' cap' gs _ (HG.out.reads.below Bu4.out) m2 L2'.out).mono ?_
  rintro e u5 ⟨bu5, adu5, rfl, ru5, pu5, hbu5, hn⟩
  have Bu5 : Hid (Below w.heap.size w u5) := Bu4.out.trans (hn.mono Bu4.out.size)
  have Hu5 := Lib.hid (FeatsAt.of_row ru5 pu5)
  replace Hu4 := Lib.hid (Hu4.out.below hn)
  clear hn ru5 pu5 hbu5 Bu4
  go_wp2_with fail
  refine (implSheetSame_any _ _ _ _ fs gs _ Hu4.out Hu5.out m1 m2 L2.out L2'.out).mono ?_
  rintro e u6 ⟨rfl, hn⟩
  have Bu6 : Hid (Below w.heap.size w u6) := Bu5.out.trans (hn.mono Bu5.out.size)
  replace Hu4 := Lib.hid (Hu4.out.below hn)
  replace Hu5 := Lib.hid (Hu5.out.below hn)
  clear hn Bu5 
  have hne : (fsEq fs gs != fsEq fs gs) = false := by simp
  go_wp2_with fail
  clear hne
  refine (toFeatS_any a cap fs _ (HF.out.reads.below Bu6.out) m1 L2.out).mono ?_
  rintro e u7 ⟨bu7, adu7, rfl, ru7, pu7, hbu7, hn⟩
  have Bu7 : Hid (Below w.heap.size w u7) := Bu6.out.trans (hn.mono Bu6.out.size)
  have Hu7 := Lib.hid (FeatsAt.of_row ru7 pu7)
  replace Hu4 := Lib.hid (Hu4.out.below hn)
  replace Hu5 := Lib.hid (Hu5.out.below hn)
  clear hn ru7 pu7 hbu7 Bu6
  go_wp2_with fail
  refine (eqFeatS_any _ _ _ _ fs fs _ Hu4.out Hu7.out m1 m1 L2.out L2.out).mono ?_
  rintro e u8 ⟨rfl, hn⟩
  have Bu8 : Hid (Below w.heap.size w u8) := Bu7.out.trans (hn.mono Bu7.out.size)
  replace Hu5 := Lib.hid (Hu5.out.below hn)
  clear hn Bu7 Hu4 Hu7
  rw [show fsEq fs fs = true by simp [fsEq]]
  go_wp2_with fail
  refine (toFeatS_any a' cap' gs _ (HG.out.reads.below Bu8.out) m2 L2'.out).mono ?_
  rintro e u9 ⟨bu9, adu9, rfl, ru9, pu9, hbu9, hn⟩
  have Bu9 : Hid (Below w.heap.size w u9) := Bu8.out.trans (hn.mono Bu8.out.size)
  have Hu9 := Lib.hid (FeatsAt.of_row ru9 pu9)
  replace Hu5 := Lib.hid (Hu5.out.below hn)
  clear hn ru9 pu9 hbu9 Bu8
  go_wp2_with fail
  refine (eqFeatS_any _ _ _ _ gs gs _ Hu5.out Hu9.out m2 m2 L2'.out L2'.out).mono ?_
  rintro e v1 ⟨rfl, hn⟩
  have Bv1 : Hid (Below w.heap.size w v1) := Bu9.out.trans (hn.mono Bu9.out.size)
  clear hn Bu9 Hu5 Hu9
  rw [show fsEq gs gs = true by simp [fsEq]]
  go_wp2
  go_ret
  exact ⟨rfl, Bv1.out⟩

set_option maxRecDepth 100000 in
theorem fnExactSheetSame_lifted (os : Os) (started : os.Started) (H : Type) (enc : TypeId × Value → H) :
    ReturnsInHanded {} Try.checked os 7 .any (Rows.fnExactSheetSameSpec.pre6 enc Try.prog Try.f7 Rows.fnExactSheetSameRow.domain false) (Rows.fnExactSheetSameSpec.post enc Try.prog Try.f7 false true false false) := by
  refine returnsInHanded_of_change (C := Try.checked) own started (by kernel_rfl) Try.func7
    (ChangeSpec.witness6 (enc := enc) (C := Try.checked) false ⟨#[], #[.slice none 0 0, .slice none 0 0], []⟩ 8 (by kernel_rfl) (by kernel_rfl) (by kernel_rfl) (by kernel_rfl)) ?_
  intro W base args ds gs before hval0 hW _ _
  have hval : ∀ (j : Nat) t v, Try.f7.params[j]? = some t → args[j]? = some v → Value.okWide Try.prog W .any base t v := hval0
  have hW' := hW
  obtain ⟨p, q, hA0, hV, rfl, _, _⟩ := hW
  have hA : DataW.TrodAll enc Try.prog W 0 (fun _ => true) true Try.f7.params.toList args.toList ds p := hA0
  rw [Try.params7] at hA hval
  obtain ⟨v0, vs0, d0, ds0, p0, q0, hargs, rfl, rfl, h0, r0⟩ := trodAll_cons hA
  obtain ⟨v1, vs1, d1, ds1, p1, q1, rfl, rfl, rfl, h1, r1⟩ := trodAll_cons r0
  obtain ⟨rfl, rfl, rfl⟩ := trodAll_nil r1
  obtain rfl : args = #[v0, v1] := by cases args; simp_all
  obtain ⟨rfl, rfl⟩ := trodVars_none hV
  have k0 := h0
  have lt0 : ∀ x ∈ p0, x.block < W.heap.size := by obtain ⟨m, hm⟩ := k0; exact DataW.trod_lt m _ _ _ hm
  obtain ⟨a0, c0, s0, rfl, f0⟩ := open_feats (hval 0 46 v0 rfl rfl) h0
  have k1 := h1
  have lt1 : ∀ x ∈ p1, x.block < W.heap.size := by obtain ⟨m, hm⟩ := k1; exact DataW.trod_lt m _ _ _ hm
  obtain ⟨a1, c1, s1, rfl, f1⟩ := open_feats (hval 1 46 v1 rfl rfl) h1
  clear hA0 hval0
  refine (fnSheetSame_walk a0 c0 s0 a1 c1 s1 W f0 f1).mono fun e W' ⟨he, bel⟩ => ?_
  subst he
  exact ⟨_, rfl, _, _, _, [], _, [], hW', trodAll_mk1 (shut_bool Try.underlying4 _), (trodAll_cons_mk (Below.trod laidOut (by kernel_rfl) (of_decide_eq_true (by kernel_rfl)) k0 bel lt0) (trodAll_cons_mk (Below.trod laidOut (by kernel_rfl) (of_decide_eq_true (by kernel_rfl)) k1 bel lt1) trodAll_mk0)), rfl, bel.frame _, fun h => by cases h⟩

theorem fnExactSheetSame_over : Rows.fnExactSheetSameRow.holds Try.pinned (OpenSpec.ofChange Rows.fnExactSheetSameSpec) :=
  OpenClaim.holds_of_wide 7 Try.f7 rfl rfl rfl rfl rfl rfl rfl ⟨rfl, rfl, rfl, rfl, rfl⟩ rfl rfl rfl rfl rfl (by kernel_rfl) Try.func7 (by kernel_rfl)
    (of_decide_eq_true (by kernel_rfl)) (by unfold Func.isWrapper; first | (rw [if_pos (by decide +kernel)]; kernel_rfl) | (rw [if_neg (by decide +kernel)]; exact ⟨rfl, rfl⟩))
    (fun os started H enc _ => fnExactSheetSame_lifted os started H enc)

/-- the given statement -/
theorem fnExactSheetSame_holds : Rows.FnExactSheetSameSaid := fnExactSheetSame_over

end Go.Proofs.Ytjphlpjippojiaa
