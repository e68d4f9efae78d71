/- Proved here: the law FnExactDiffOk answers true at every list of changes, and leaves it as it was; no condition. -/
import Derived.Test.YtelimcknhaflfaaWChangeEq
import Derived.Test.YtelimcknhaflfaaWChangeTo
import Derived.Test.YtelimcknhaflfaaWDiffOkI
namespace Go.Proofs.Ytelimcknhaflfaa
set_option linter.unusedVariables false
open Go.ChangeShapes Go.WideShapes Go.ChangeAt Go.RowKit

set_option maxRecDepth 100000 in
set_option maxHeartbeats 6400000 in
theorem fnDiffOk_walk (a : Option Addr) (cap : Nat) (ds : List Ch) (w : World) (hf : ChangesIn w a ds) :
    Calls Try.prog 4 #[.slice a ds.length cap] w fun e w' => e = .returned (.bool true) ∧ Below w.heap.size w w' := by
  have HF := Lib.hid hf
  clear hf
  go_enter Try.func4, Try.ntmps4
  go_wp2_with fail
  refine (szChangeS_any _ _ _ _ _ HF.out (by omega) (by omega)).mono ?_
  rintro e w1 ⟨⟨r, rfl, hs⟩, hb1⟩
  have B1 := Lib.hid hb1
  clear hb1
  rcases hs with rfl | ⟨r0, r1, l1, l2⟩
  · go_wp2
    go_ret
    exact ⟨rfl, B1.out⟩
  have L2 : Hid (ChLen ds 1048576) := l2.mono (by omega)
  clear l2
  have m1 : ds.length ≤ 1048576 := by omega
  go_wp2_with fail
  refine (toChangeS_any a cap ds _ (HF.out.reads.below B1.out) m1 L2.out).mono ?_
  rintro e u1 ⟨bu1, adu1, rfl, ru1, pu1, hbu1, hn⟩
  have Bu1 : Hid (Below w.heap.size w u1) := B1.out.trans (hn.mono B1.out.size)
  have Hu1 := Lib.hid (ChangesAt.of_row ru1 pu1)
  clear hn ru1 pu1 hbu1 B1
  go_wp2_with fail
  refine (specDiffOk_any _ _ ds _ Hu1.out m1 L2.out).mono ?_
  rintro e u2 ⟨rfl, hn⟩
  have Bu2 : Hid (Below w.heap.size w u2) := Bu1.out.trans (hn.mono Bu1.out.size)
  clear hn Bu1 Hu1
  go_wp2_with fail
  refine (toChangeS_any a cap ds _ (HF.out.reads.below Bu2.out) m1 L2.out).mono ?_
  rintro e u3 ⟨bu3, adu3, rfl, ru3, pu3, hbu3, hn⟩
  have Bu3 : Hid (Below w.heap.size w u3) := Bu2.out.trans (hn.mono Bu2.out.size)
  have Hu3 := Lib.hid (ChangesAt.of_row ru3 pu3)
  clear hn ru3 pu3 hbu3 Bu2
  go_wp2_with fail
  refine (implDiffOk_any _ _ ds _ Hu3.out m1 L2.out).mono ?_
  rintro e u4 ⟨rfl, hn⟩
  have Bu4 : Hid (Below w.heap.size w u4) := Bu3.out.trans (hn.mono Bu3.out.size)
  replace Hu3 := Lib.hid (Hu3.out.below hn)
  clear hn Bu3 
  have hne : (diffOk ds != diffOk ds) = false := by simp
  go_wp2_with fail
  clear hne
  refine (toChangeS_any a cap ds _ (HF.out.reads.below Bu4.out) m1 L2.out).mono ?_
  rintro e u5 ⟨bu5, adu5, rfl, ru5, pu5, hbu5, hn⟩
  have Bu5 : Hid (Below w.heap.size w u5) := Bu4.out.trans (hn.mono Bu4.out.size)
  have Hu5 := Lib.hid (ChangesAt.of_row ru5 pu5)
  replace Hu3 := Lib.hid (Hu3.out.below hn)
  clear hn ru5 pu5 hbu5 Bu4
  go_wp2_with fail
  refine (eqChangeS_any _ _ _ _ ds ds _ Hu3.out Hu5.out m1 m1 L2.out L2.out).mono ?_
  rintro e u6 ⟨rfl, hn⟩
  have Bu6 : Hid (Below w.heap.size w u6) := Bu5.out.trans (hn.mono Bu5.out.size)
  clear hn Bu5 Hu3 Hu5
  rw [show csEq ds ds = true by simp [csEq]]
  go_wp2
  go_ret
  exact ⟨rfl, Bu6.out⟩

set_option maxRecDepth 100000 in
theorem fnExactDiffOk_lifted (os : Os) (started : os.Started) (H : Type) (enc : TypeId × Value → H) :
    ReturnsInHanded {} Try.checked os 4 .any (Rows.fnExactDiffOkSpec.pre6 enc Try.prog Try.f4 Rows.fnExactDiffOkRow.domain false) (Rows.fnExactDiffOkSpec.post enc Try.prog Try.f4 false true false false) := by
  refine returnsInHanded_of_change (C := Try.checked) own started (by kernel_rfl) Try.func4
    (ChangeSpec.witness6 (enc := enc) (C := Try.checked) false ⟨#[], #[.slice none 0 0], []⟩ 8 (by kernel_rfl) (by kernel_rfl) (by kernel_rfl) (by kernel_rfl)) ?_
  intro W base args ds gs before hval0 hW _ _
  have hval : ∀ (j : Nat) t v, Try.f4.params[j]? = some t → args[j]? = some v → Value.okWide Try.prog W .any base t v := hval0
  have hW' := hW
  obtain ⟨p, q, hA0, hV, rfl, _, _⟩ := hW
  have hA : DataW.TrodAll enc Try.prog W 0 (fun _ => true) true Try.f4.params.toList args.toList ds p := hA0
  rw [Try.params4] at hA hval
  obtain ⟨v0, vs0, d0, ds0, p0, q0, hargs, rfl, rfl, h0, r0⟩ := trodAll_cons hA
  obtain ⟨rfl, rfl, rfl⟩ := trodAll_nil r0
  obtain rfl : args = #[v0] := by cases args; simp_all
  obtain ⟨rfl, rfl⟩ := trodVars_none hV
  have k0 := h0
  have lt0 : ∀ x ∈ p0, x.block < W.heap.size := by obtain ⟨m, hm⟩ := k0; exact DataW.trod_lt m _ _ _ hm
  obtain ⟨a0, c0, s0, rfl, f0⟩ := open_changes (hval 0 36 v0 rfl rfl) h0
  clear hA0 hval0
  refine (fnDiffOk_walk a0 c0 s0 W f0).mono fun e W' ⟨he, bel⟩ => ?_
  subst he
  exact ⟨_, rfl, _, _, _, [], _, [], hW', trodAll_mk1 (shut_bool Try.underlying4 _), (trodAll_cons_mk (Below.trod laidOut (by kernel_rfl) (of_decide_eq_true (by kernel_rfl)) k0 bel lt0) trodAll_mk0), rfl, bel.frame _, fun h => by cases h⟩

theorem fnExactDiffOk_over : Rows.fnExactDiffOkRow.holds Try.pinned (OpenSpec.ofChange Rows.fnExactDiffOkSpec) :=
  OpenClaim.holds_of_wide 4 Try.f4 rfl rfl rfl rfl rfl rfl rfl ⟨rfl, rfl, rfl, rfl, rfl⟩ rfl rfl rfl rfl rfl (by kernel_rfl) Try.func4 (by kernel_rfl)
    (of_decide_eq_true (by kernel_rfl)) (by unfold Func.isWrapper; first | (rw [if_pos (by decide +kernel)]; kernel_rfl) | (rw [if_neg (by decide +kernel)]; exact ⟨rfl, rfl⟩))
    (fun os started H enc _ => fnExactDiffOk_lifted os started H enc)

/-- the given statement -/
theorem fnExactDiffOk_holds : Rows.FnExactDiffOkSaid := fnExactDiffOk_over

end Go.Proofs.Ytelimcknhaflfaa
