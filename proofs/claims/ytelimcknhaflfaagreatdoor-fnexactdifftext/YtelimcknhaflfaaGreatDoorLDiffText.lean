/- Proved here: the law FnExactDiffText answers true at every list of changes, and leaves it as it was; the library's table of powers of ten stands as laid. -/
import Derived.Test.YtelimcknhaflfaaGreatDoorWChangeEq
import Derived.Test.YtelimcknhaflfaaGreatDoorWChangeTo
import Derived.Test.YtelimcknhaflfaaGreatDoorWDiffText
import Derived.Test.YtelimcknhaflfaaGreatDoorWLaidD
import Derived.Test.YtelimcknhaflfaaGreatDoorTie
import Derived.Test.YtelimcknhaflfaaGreatDoorCards
import Derived.LaidMore
import Derived.OpenShut
import Derived.Lay
import Derived.SevenTiedAt
import Derived.Stop.Joined
namespace Go.Proofs.YtelimcknhaflfaaGreatDoor
set_option linter.unusedVariables false
open Go.ChangeShapes Go.WideShapes Go.ChangeAt Go.RowKit

set_option maxRecDepth 100000 in
set_option maxHeartbeats 6400000 in
theorem fnDiffText_walk (a : Option Addr) (cap : Nat) (ds : List Ch) (w : World) (hf : ChangesIn w a ds) (htab : Tab w) :
    Calls Tryz.prog 3 #[.slice a ds.length cap] w fun e w' => e = .returned (.bool true) ∧ Below w.heap.size w w' := by
  have HF := Lib.hid hf
  have HTab := Lib.hid htab
  clear hf htab
  go_enter Tryz.func3, Tryz.ntmps3
  go_wp2_with fail
  refine (szChangeS_any _ _ _ _ _ HF.out (by omega) (by omega)).mono ?_
  rintro e w1 ⟨⟨r, rfl, hs⟩, hb1⟩
  have B1 := Lib.hid hb1
  clear hb1
  rcases hs with rfl | ⟨r0, r1, l1, l2⟩
  · go_wp2
    go_ret
    exact ⟨rfl, B1.out⟩
  have L2 : Hid (ChLen ds 1048576) := l2.mono (by omega)
  clear l2
  have m1 : ds.length ≤ 1048576 := by omega
  go_wp2_with fail
  refine (toChangeS_any a cap ds _ (HF.out.reads.below B1.out) m1 L2.out).mono ?_
  rintro e u1 ⟨bu1, adu1, rfl, ru1, pu1, hbu1, hn⟩
  have Bu1 : Hid (Below w.heap.size w u1) := B1.out.trans (hn.mono B1.out.size)
  have Hu1 := Lib.hid (ChangesAt.of_row ru1 pu1)
  clear hn ru1 pu1 hbu1 B1
  go_wp2_with fail
  refine (specDiffText_any _ _ ds _ Hu1.out m1 L2.out).mono ?_
  rintro e u2 ⟨rfl, hn⟩
  have Bu2 : Hid (Below w.heap.size w u2) := Bu1.out.trans (hn.mono Bu1.out.size)
  clear hn Bu1 Hu1
  go_wp2_with fail
  refine (toChangeS_any a cap ds _ (HF.out.reads.below Bu2.out) m1 L2.out).mono ?_
  rintro e u3 ⟨bu3, adu3, rfl, ru3, pu3, hbu3, hn⟩
  have Bu3 : Hid (Below w.heap.size w u3) := Bu2.out.trans (hn.mono Bu2.out.size)
  have Hu3 := Lib.hid (ChangesAt.of_row ru3 pu3)
  clear hn ru3 pu3 hbu3 Bu2
  go_wp2_with fail
  refine (implDiffText_any _ _ ds _ Hu3.out (HTab.out.below Bu3.out) m1 L2.out).mono ?_
  rintro e u4 ⟨rfl, hn⟩
  have Bu4 : Hid (Below w.heap.size w u4) := Bu3.out.trans (hn.mono Bu3.out.size)
  replace Hu3 := Lib.hid (Hu3.out.below hn)
  clear hn Bu3 
  have hne := bytes_beq (diffT ds) (diffT ds)
  rw [decide_eq_true rfl] at hne
  go_wp2_with fail
  clear hne
  refine (toChangeS_any a cap ds _ (HF.out.reads.below Bu4.out) m1 L2.out).mono ?_
  rintro e u5 ⟨bu5, adu5, rfl, ru5, pu5, hbu5, hn⟩
  have Bu5 : Hid (Below w.heap.size w u5) := Bu4.out.trans (hn.mono Bu4.out.size)
  have Hu5 := Lib.hid (ChangesAt.of_row ru5 pu5)
  replace Hu3 := Lib.hid (Hu3.out.below hn)
  clear hn ru5 pu5 hbu5 Bu4
  go_wp2_with fail
  refine (eqChangeS_any _ _ _ _ ds ds _ Hu3.out Hu5.out m1 m1 L2.out L2.out).mono ?_
  rintro e u6 ⟨rfl, hn⟩
  have Bu6 : Hid (Below w.heap.size w u6) := Bu5.out.trans (hn.mono Bu5.out.size)
  clear hn Bu5 Hu3 Hu5
  rw [show csEq ds ds = true by simp [csEq]]
  go_wp2
  go_ret
  exact ⟨rfl, Bu6.out⟩

set_option maxRecDepth 100000 in
theorem fnExactDiffText_lifted (os : Os) (started : os.Started) (H : Type) (enc : TypeId × Value → H) :
    ReturnsInHanded {} Tryz.checked os 3 .any (fun w args => (Rows.fnExactDiffTextSpec.pre enc Tryz.prog Tryz.f3 Rows.fnExactDiffTextRow.domain false w args ∧ laidMetH Tryz.prog Rows.fnExactDiffTextRow.laid w) ∧ sizedMet enc Tryz.prog Tryz.f3 (OpenSpec.ofChange Rows.fnExactDiffTextSpec) false w args)
      (Rows.fnExactDiffTextSpec.post enc Tryz.prog Tryz.f3 false true false false) := by
  refine returnsInHanded_of_change_and (C := Tryz.checked) (X := fun w _ => laidMetH Tryz.prog Rows.fnExactDiffTextRow.laid w) (fun _ _ _ hh h => h.of_heap hh) own started (by kernel_rfl) Tryz.func3
    (ChangeSpec.witness_shaped (enc := enc) (C := Tryz.checked) (os := os) (X := fun w _ => laidMetH Tryz.prog Rows.fnExactDiffTextRow.laid w) false (World.laidAll Tryz.prog os Rows.fnExactDiffTextRow.laid) #[.slice none 0 0] 8 (World.laidAll_os _ _ _)
      (World.shaped_of_ZipB (by kernel_rfl) (by kernel_rfl)) (by kernel_rfl) (by kernel_rfl) (by kernel_rfl)
      (by rw [MakeChecks.laidMetH_plain _ _ _ (by kernel_rfl)]; exact laidMet_laidAll _ (by kernel_rfl) (by kernel_rfl))) ?_
  intro W base args ds gs before hval0 hW _ _ hL _
  have hval : ∀ (j : Nat) t v, Tryz.f3.params[j]? = some t → args[j]? = some v → Value.okWide Tryz.prog W .any base t v := hval0
  have hW' := hW
  obtain ⟨p, q, hA0, hV, rfl, _, _⟩ := hW
  have hA : DataW.TrodAll enc Tryz.prog W 0 (fun _ => true) true Tryz.f3.params.toList args.toList ds p := hA0
  rw [Tryz.params3] at hA hval
  obtain ⟨v0, vs0, d0, ds0, p0, q0, hargs, rfl, rfl, h0, r0⟩ := trodAll_cons hA
  obtain ⟨rfl, rfl, rfl⟩ := trodAll_nil r0
  obtain rfl : args = #[v0] := by cases args; simp_all
  obtain ⟨rfl, rfl⟩ := trodVars_none hV
  have k0 := h0
  have lt0 : ∀ x ∈ p0, x.block < W.heap.size := by obtain ⟨m, hm⟩ := k0; exact DataW.trod_lt m _ _ _ hm
  obtain ⟨a0, c0, s0, rfl, f0⟩ := open_changes (hval 0 22 v0 rfl rfl) h0
  clear hA0 hval0
  refine (fnDiffText_walk a0 c0 s0 W f0 (tab_of_laid hL)).mono fun e W' ⟨he, bel⟩ => ?_
  subst he
  exact ⟨_, rfl, _, _, _, [], _, [], hW', trodAll_mk1 (shut_bool Tryz.underlying4 _), (trodAll_cons_mk (Below.trod laidOut (by kernel_rfl) (of_decide_eq_true (by kernel_rfl)) k0 bel lt0) trodAll_mk0), rfl, bel.frame _, fun h => by cases h⟩

theorem fnExactDiffText_row : Rows.FnExactDiffTextSaid :=
  OpenClaim.holds_of_wide 3 Tryz.f3 rfl rfl rfl rfl rfl rfl rfl ⟨rfl, rfl, rfl, rfl, rfl⟩ rfl rfl rfl rfl rfl (by kernel_rfl) Tryz.func3 (by kernel_rfl)
    (of_decide_eq_true (by kernel_rfl)) (by unfold Func.isWrapper; first | (rw [if_pos (by decide +kernel)]; kernel_rfl) | (rw [if_neg (by decide +kernel)]; exact ⟨rfl, rfl⟩))
    (fun os started H enc _ => fnExactDiffText_lifted os started H enc)

/-- the given statement -/
theorem fnExactDiffText_holds : Rows.FnExactDiffTextCardSaid :=
  Claim7.holds_tied_plain_at .later [] [.data, .data, .data] true Rows.fnExactDiffTextCard.stood.harness false fnExactDiffText_row (fun _ h => by cases h) (by kernel_rfl) (fun _ h => by cases h) fnExactDiffText_row_tie rfl ⟨rfl, rfl⟩ (by kernel_rfl) rfl
    (fun f fn hf hfn => by
      obtain rfl : f = 3 := Option.some.inj ((show Tryz.prog.funcNamed "loop.example/townland/laws.FnExactDiffText" = some 3 by kernel_rfl).symm.trans hf) |>.symm
      obtain rfl : fn = Tryz.f3 := (Option.some.inj (Tryz.func3.symm.trans hfn)).symm
      exact ⟨by kernel_rfl, fun j t ht => by
        have hall : (Tryz.f3.params.toList.all fun u => !Tryz.prog.wantsStandIn u) = true := by kernel_rfl
        have hm : t ∈ Tryz.f3.params.toList := by simpa using Array.mem_of_getElem? ht
        exact (show Tryz.prog.wantsStandIn t = false by simpa using List.all_eq_true.1 hall t hm)⟩)
    (by kernel_rfl)

end Go.Proofs.YtelimcknhaflfaaGreatDoor
