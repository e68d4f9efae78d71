/- Proved here: the law FnExactClashText answers true at every list of clashes, and leaves it as it was; no condition. -/
import Derived.Test.YtccgbengfmlgbaaWClashArg
import Derived.Test.YtccgbengfmlgbaaWClashText
namespace Go.Proofs.Ytccgbengfmlgbaa
set_option linter.unusedVariables false
open Go.ChangeShapes Go.WideShapes Go.ChangeAt Go.RowKit

set_option maxRecDepth 100000 in
set_option maxHeartbeats 6400000 in
theorem fnClashText_walk (a : Option Addr) (cap : Nat) (ts : List Tg) (w : World) (hf : ClashIn w a ts) :
    Calls Try.prog 3 #[.slice a ts.length cap] w fun e w' => e = .returned (.bool true) ∧ Below w.heap.size w w' := by
  have HF := Lib.hid hf
  clear hf
  go_enter Try.func3, Try.ntmps3
  go_wp2_with fail
  have IN1 := Lib.hid HF.out
  refine (szClashS_any _ _ _ _ _ IN1.out.reads IN1.out.len IN1.out.txl (by omega) (by omega)).mono ?_
  rintro e w1 ⟨⟨r1, rfl, hs⟩, hb1⟩
  have B1 : Hid (Below w.heap.size w w1) := hb1
  clear hb1 IN1 
  rcases hs with rfl | ⟨r10, r11, l11, l12⟩
  · go_wp2
    go_ret
    exact ⟨rfl, B1.out⟩
  have L1 : Hid (TagsLen ts 1048576) := l12.mono (by omega)
  clear l12
  have m1 : ts.length ≤ 1048576 := by omega
  go_wp2_with fail
  refine (toClashS_any a cap ts _ (HF.out.reads.below B1.out) m1).mono ?_
  rintro e u1 ⟨bu1, rfl, ru1, hbu1, hn⟩
  have Bu1 : Hid (Below w.heap.size w u1) := B1.out.trans (hn.mono B1.out.size)
  have Hu1 := Lib.hid (TagsAt.of_row ru1)
  clear hn ru1 hbu1 B1
  go_wp2_with fail
  refine (specClashText_any _ _ ts _ Hu1.out m1 L1.out).mono ?_
  rintro e u2 ⟨rfl, hn⟩
  have Bu2 : Hid (Below w.heap.size w u2) := Bu1.out.trans (hn.mono Bu1.out.size)
  clear hn Bu1 Hu1
  go_wp2_with fail
  refine (toClashS_any a cap ts _ (HF.out.reads.below Bu2.out) m1).mono ?_
  rintro e u3 ⟨bu3, rfl, ru3, hbu3, hn⟩
  have Bu3 : Hid (Below w.heap.size w u3) := Bu2.out.trans (hn.mono Bu2.out.size)
  have Hu3 := Lib.hid (TagsAt.of_row ru3)
  clear hn ru3 hbu3 Bu2
  go_wp2_with fail
  refine (implClashText_any _ _ ts _ Hu3.out m1 L1.out).mono ?_
  rintro e u4 ⟨rfl, hn⟩
  have Bu4 : Hid (Below w.heap.size w u4) := Bu3.out.trans (hn.mono Bu3.out.size)
  replace Hu3 := Lib.hid (Hu3.out.below hn)
  clear hn Bu3 
  have hne := bytes_beq (clTo ts ts.length) (clTo ts ts.length)
  rw [decide_eq_true rfl] at hne
  go_wp2_with fail
  clear hne
  refine (toClashS_any a cap ts _ (HF.out.reads.below Bu4.out) m1).mono ?_
  rintro e u5 ⟨bu5, rfl, ru5, hbu5, hn⟩
  have Bu5 : Hid (Below w.heap.size w u5) := Bu4.out.trans (hn.mono Bu4.out.size)
  have Hu5 := Lib.hid (TagsAt.of_row ru5)
  replace Hu3 := Lib.hid (Hu3.out.below hn)
  clear hn ru5 hbu5 Bu4
  go_wp2_with fail
  refine (eqClashS_any _ _ _ _ ts ts _ Hu3.out Hu5.out m1 m1).mono ?_
  rintro e u6 ⟨rfl, hn⟩
  have Bu6 : Hid (Below w.heap.size w u6) := Bu5.out.trans (hn.mono Bu5.out.size)
  clear hn Bu5 Hu3 Hu5
  rw [show tgsEq ts ts = true by simp [tgsEq]]
  go_wp2
  go_ret
  exact ⟨rfl, Bu6.out⟩

set_option maxRecDepth 100000 in
theorem fnExactClashText_lifted (os : Os) (started : os.Started) (H : Type) (enc : TypeId × Value → H) :
    ReturnsInHanded {} Try.checked os 3 .any (Rows.fnExactClashTextSpec.pre6 enc Try.prog Try.f3 Rows.fnExactClashTextRow.domain false) (Rows.fnExactClashTextSpec.post enc Try.prog Try.f3 false true false false) := by
  refine returnsInHanded_of_change (C := Try.checked) own started (by kernel_rfl) Try.func3
    (ChangeSpec.witness6 (enc := enc) (C := Try.checked) false ⟨#[], #[.slice none 0 0], []⟩ 8 (by kernel_rfl) (by kernel_rfl) (by kernel_rfl) (by kernel_rfl)) ?_
  intro W base args ds gs before hval0 hW _ _
  have hval : ∀ (j : Nat) t v, Try.f3.params[j]? = some t → args[j]? = some v → Value.okWide Try.prog W .any base t v := hval0
  have hW' := hW
  obtain ⟨p, q, hA0, hV, rfl, _, _⟩ := hW
  have hA : DataW.TrodAll enc Try.prog W 0 (fun _ => true) true Try.f3.params.toList args.toList ds p := hA0
  rw [Try.params3] at hA hval
  obtain ⟨v0, vs0, d0, ds0, p0, q0, hargs, rfl, rfl, h0, r0⟩ := trodAll_cons hA
  obtain ⟨rfl, rfl, rfl⟩ := trodAll_nil r0
  obtain rfl : args = #[v0] := by cases args; simp_all
  obtain ⟨rfl, rfl⟩ := trodVars_none hV
  have k0 := h0
  have lt0 : ∀ x ∈ p0, x.block < W.heap.size := by obtain ⟨m, hm⟩ := k0; exact DataW.trod_lt m _ _ _ hm
  obtain ⟨a0, c0, s0, rfl, f0⟩ := open_clashesT (hval 0 22 v0 rfl rfl) h0
  clear hA0 hval0
  refine (fnClashText_walk a0 c0 s0 W f0).mono fun e W' ⟨he, bel⟩ => ?_
  subst he
  exact ⟨_, rfl, _, _, _, [], _, [], hW', trodAll_mk1 (shut_bool Try.underlying4 _), (trodAll_cons_mk (Below.trod laidOut (by kernel_rfl) (of_decide_eq_true (by kernel_rfl)) k0 bel lt0) trodAll_mk0), rfl, bel.frame _, fun h => by cases h⟩

theorem fnExactClashText_over : Rows.fnExactClashTextRow.holds Try.pinned (OpenSpec.ofChange Rows.fnExactClashTextSpec) :=
  OpenClaim.holds_of_wide 3 Try.f3 rfl rfl rfl rfl rfl rfl rfl ⟨rfl, rfl, rfl, rfl, rfl⟩ rfl rfl rfl rfl rfl (by kernel_rfl) Try.func3 (by kernel_rfl)
    (of_decide_eq_true (by kernel_rfl)) (by unfold Func.isWrapper; first | (rw [if_pos (by decide +kernel)]; kernel_rfl) | (rw [if_neg (by decide +kernel)]; exact ⟨rfl, rfl⟩))
    (fun os started H enc _ => fnExactClashText_lifted os started H enc)

/-- the given statement -/
theorem fnExactClashText_holds : Rows.FnExactClashTextSaid := fnExactClashText_over

end Go.Proofs.Ytccgbengfmlgbaa
