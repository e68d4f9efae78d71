/- Proved here: the law FnExactClashSame answers true at every two lists of clashes, and leaves them as they were; no condition. -/
import Derived.Test.YtccgbengfmlgbaaWClashArg
import Derived.Test.YtccgbengfmlgbaaWClashSame
namespace Go.Proofs.Ytccgbengfmlgbaa
set_option linter.unusedVariables false
open Go.ChangeShapes Go.WideShapes Go.ChangeAt Go.RowKit

set_option maxRecDepth 100000 in
set_option maxHeartbeats 6400000 in
theorem fnClashSame_walk (a : Option Addr) (cap : Nat) (ts : List Tg) (a' : Option Addr) (cap' : Nat) (us : List Tg) (w : World) (hf : ClashIn w a ts) (hg : ClashIn w a' us) :
    Calls Try.prog 4 #[.slice a ts.length cap, .slice a' us.length cap'] w fun e w' => e = .returned (.bool true) ∧ Below w.heap.size w w' := by
  have HF := Lib.hid hf
  have HG := Lib.hid hg
  clear hf hg
  go_enter Try.func4, Try.ntmps4
  go_wp2_with fail
  have IN1 := Lib.hid HF.out
  refine (szClashS_any _ _ _ _ _ IN1.out.reads IN1.out.len IN1.out.txl (by omega) (by omega)).mono ?_
  rintro e w1 ⟨⟨r1, rfl, hs⟩, hb1⟩
  have B1 : Hid (Below w.heap.size w w1) := hb1
  clear hb1 IN1 
  rcases hs with rfl | ⟨r10, r11, l11, l12⟩
  · go_wp2
    go_ret
    exact ⟨rfl, B1.out⟩
  have L1 : Hid (TagsLen ts 1048576) := l12.mono (by omega)
  clear l12
  go_wp2_with fail
  have IN2 := Lib.hid (HG.out.below B1.out)
  refine (szClashS_any _ _ _ _ _ IN2.out.reads IN2.out.len IN2.out.txl (by omega) (by omega)).mono ?_
  rintro e w2 ⟨⟨r2, rfl, hs⟩, hb2⟩
  have B2 : Hid (Below w.heap.size w w2) := B1.out.trans (hb2.mono B1.out.size)
  clear hb2 IN2 B1
  rcases hs with rfl | ⟨r20, r21, l21, l22⟩
  · go_wp2
    go_ret
    exact ⟨rfl, B2.out⟩
  have L2 : Hid (TagsLen us 1048576) := l22.mono (by omega)
  clear l22
  have m1 : ts.length ≤ 1048576 := by omega
  have m2 : us.length ≤ 1048576 := by omega
  go_wp2_with fail
  refine (toClashS_any a cap ts _ (HF.out.reads.below B2.out) m1).mono ?_
  rintro e u1 ⟨bu1, rfl, ru1, hbu1, hn⟩
  have Bu1 : Hid (Below w.heap.size w u1) := B2.out.trans (hn.mono B2.out.size)
  have Hu1 := Lib.hid (TagsAt.of_row ru1)
  clear hn ru1 hbu1 B2
  go_wp2_with fail
  refine (toClashS_any a' cap' us _ (HG.out.reads.below Bu1.out) m2).mono ?_
  rintro e u2 ⟨bu2, rfl, ru2, hbu2, hn⟩
  have Bu2 : Hid (Below w.heap.size w u2) := Bu1.out.trans (hn.mono Bu1.out.size)
  have Hu2 := Lib.hid (TagsAt.of_row ru2)
  replace Hu1 := Lib.hid (Hu1.out.below hn)
  clear hn ru2 hbu2 Bu1
  go_wp2_with fail
  refine (clashSameS_any _ _ _ _ ts us _ Hu1.out Hu2.out m1 m2).mono ?_
  rintro e u3 ⟨rfl, hn⟩
  replace hn : Below u2.heap.size u2 u3 := (by obtain ⟨n, h⟩ := hn; rw [h]; exact below_drewN (Below.refl _ _) n)
  have Bu3 : Hid (Below w.heap.size w u3) := Bu2.out.trans (hn.mono Bu2.out.size)
  clear hn Bu2 Hu1 Hu2
  go_wp2_with fail
  refine (toClashS_any a cap ts _ (HF.out.reads.below Bu3.out) m1).mono ?_
  rintro e u4 ⟨bu4, rfl, ru4, hbu4, hn⟩
  have Bu4 : Hid (Below w.heap.size w u4) := Bu3.out.trans (hn.mono Bu3.out.size)
  have Hu4 := Lib.hid (TagsAt.of_row ru4)
  clear hn ru4 hbu4 Bu3
  go_wp2_with fail
  refine (toClashS_any a' cap' us _ (HG.out.reads.below Bu4.out) m2).mono ?_
  rintro e u5 ⟨bu5, rfl, ru5, hbu5, hn⟩
  have Bu5 : Hid (Below w.heap.size w u5) := Bu4.out.trans (hn.mono Bu4.out.size)
  have Hu5 := Lib.hid (TagsAt.of_row ru5)
  replace Hu4 := Lib.hid (Hu4.out.below hn)
  clear hn ru5 hbu5 Bu4
  go_wp2_with fail
  refine (implClashSame_any _ _ _ _ ts us _ Hu4.out Hu5.out m1 m2).mono ?_
  rintro e u6 ⟨rfl, hn⟩
  replace hn : Below u5.heap.size u5 u6 := (by obtain ⟨n, h⟩ := hn; rw [h]; exact below_drewN (Below.refl _ _) n)
  have Bu6 : Hid (Below w.heap.size w u6) := Bu5.out.trans (hn.mono Bu5.out.size)
  replace Hu4 := Lib.hid (Hu4.out.below hn)
  replace Hu5 := Lib.hid (Hu5.out.below hn)
  clear hn Bu5 
  have hne : (tgsEq ts us != tgsEq ts us) = false := by simp
  go_wp2_with fail
  clear hne
  refine (toClashS_any a cap ts _ (HF.out.reads.below Bu6.out) m1).mono ?_
  rintro e u7 ⟨bu7, rfl, ru7, hbu7, hn⟩
  have Bu7 : Hid (Below w.heap.size w u7) := Bu6.out.trans (hn.mono Bu6.out.size)
  have Hu7 := Lib.hid (TagsAt.of_row ru7)
  replace Hu4 := Lib.hid (Hu4.out.below hn)
  replace Hu5 := Lib.hid (Hu5.out.below hn)
  clear hn ru7 hbu7 Bu6
  go_wp2_with fail
  refine (eqClashS_any _ _ _ _ ts ts _ Hu4.out Hu7.out m1 m1).mono ?_
  rintro e u8 ⟨rfl, hn⟩
  have Bu8 : Hid (Below w.heap.size w u8) := Bu7.out.trans (hn.mono Bu7.out.size)
  replace Hu5 := Lib.hid (Hu5.out.below hn)
  clear hn Bu7 Hu4 Hu7
  rw [show tgsEq ts ts = true by simp [tgsEq]]
  go_wp2_with fail
  refine (toClashS_any a' cap' us _ (HG.out.reads.below Bu8.out) m2).mono ?_
  rintro e u9 ⟨bu9, rfl, ru9, hbu9, hn⟩
  have Bu9 : Hid (Below w.heap.size w u9) := Bu8.out.trans (hn.mono Bu8.out.size)
  have Hu9 := Lib.hid (TagsAt.of_row ru9)
  replace Hu5 := Lib.hid (Hu5.out.below hn)
  clear hn ru9 hbu9 Bu8
  go_wp2_with fail
  refine (eqClashS_any _ _ _ _ us us _ Hu5.out Hu9.out m2 m2).mono ?_
  rintro e v1 ⟨rfl, hn⟩
  have Bv1 : Hid (Below w.heap.size w v1) := Bu9.out.trans (hn.mono Bu9.out.size)
  clear hn Bu9 Hu5 Hu9
  rw [show tgsEq us us = true by simp [tgsEq]]
  go_wp2
  go_ret
  exact ⟨rfl, Bv1.out⟩

set_option maxRecDepth 100000 in
theorem fnExactClashSame_lifted (os : Os) (started : os.Started) (H : Type) (enc : TypeId × Value → H) :
    ReturnsInHanded {} Try.checked os 4 .any (Rows.fnExactClashSameSpec.pre6 enc Try.prog Try.f4 Rows.fnExactClashSameRow.domain false) (Rows.fnExactClashSameSpec.post enc Try.prog Try.f4 false true false false) := by
  refine returnsInHanded_of_change (C := Try.checked) own started (by kernel_rfl) Try.func4
    (ChangeSpec.witness6 (enc := enc) (C := Try.checked) false ⟨#[], #[.slice none 0 0, .slice none 0 0], []⟩ 8 (by kernel_rfl) (by kernel_rfl) (by kernel_rfl) (by kernel_rfl)) ?_
  intro W base args ds gs before hval0 hW _ _
  have hval : ∀ (j : Nat) t v, Try.f4.params[j]? = some t → args[j]? = some v → Value.okWide Try.prog W .any base t v := hval0
  have hW' := hW
  obtain ⟨p, q, hA0, hV, rfl, _, _⟩ := hW
  have hA : DataW.TrodAll enc Try.prog W 0 (fun _ => true) true Try.f4.params.toList args.toList ds p := hA0
  rw [Try.params4] at hA hval
  obtain ⟨v0, vs0, d0, ds0, p0, q0, hargs, rfl, rfl, h0, r0⟩ := trodAll_cons hA
  obtain ⟨v1, vs1, d1, ds1, p1, q1, rfl, rfl, rfl, h1, r1⟩ := trodAll_cons r0
  obtain ⟨rfl, rfl, rfl⟩ := trodAll_nil r1
  obtain rfl : args = #[v0, v1] := by cases args; simp_all
  obtain ⟨rfl, rfl⟩ := trodVars_none hV
  have k0 := h0
  have lt0 : ∀ x ∈ p0, x.block < W.heap.size := by obtain ⟨m, hm⟩ := k0; exact DataW.trod_lt m _ _ _ hm
  obtain ⟨a0, c0, s0, rfl, f0⟩ := open_clashesT (hval 0 22 v0 rfl rfl) h0
  have k1 := h1
  have lt1 : ∀ x ∈ p1, x.block < W.heap.size := by obtain ⟨m, hm⟩ := k1; exact DataW.trod_lt m _ _ _ hm
  obtain ⟨a1, c1, s1, rfl, f1⟩ := open_clashesT (hval 1 22 v1 rfl rfl) h1
  clear hA0 hval0
  refine (fnClashSame_walk a0 c0 s0 a1 c1 s1 W f0 f1).mono fun e W' ⟨he, bel⟩ => ?_
  subst he
  exact ⟨_, rfl, _, _, _, [], _, [], hW', trodAll_mk1 (shut_bool Try.underlying4 _), (trodAll_cons_mk (Below.trod laidOut (by kernel_rfl) (of_decide_eq_true (by kernel_rfl)) k0 bel lt0) (trodAll_cons_mk (Below.trod laidOut (by kernel_rfl) (of_decide_eq_true (by kernel_rfl)) k1 bel lt1) trodAll_mk0)), rfl, bel.frame _, fun h => by cases h⟩

theorem fnExactClashSame_over : Rows.fnExactClashSameRow.holds Try.pinned (OpenSpec.ofChange Rows.fnExactClashSameSpec) :=
  OpenClaim.holds_of_wide 4 Try.f4 rfl rfl rfl rfl rfl rfl rfl ⟨rfl, rfl, rfl, rfl, rfl⟩ rfl rfl rfl rfl rfl (by kernel_rfl) Try.func4 (by kernel_rfl)
    (of_decide_eq_true (by kernel_rfl)) (by unfold Func.isWrapper; first | (rw [if_pos (by decide +kernel)]; kernel_rfl) | (rw [if_neg (by decide +kernel)]; exact ⟨rfl, rfl⟩))
    (fun os started H enc _ => fnExactClashSame_lifted os started H enc)

/-- the given statement -/
theorem fnExactClashSame_holds : Rows.FnExactClashSameSaid := fnExactClashSame_over

end Go.Proofs.Ytccgbengfmlgbaa
