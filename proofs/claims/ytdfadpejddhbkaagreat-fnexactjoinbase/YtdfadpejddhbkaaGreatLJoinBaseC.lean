/- Proved here: the law FnExactJoinBase answers true at every room of versions and every two places, and leaves it as it was; no condition. -/
import Derived.Test.YtdfadpejddhbkaaGreatG3
import Derived.Test.YtdfadpejddhbkaaGreatG10
import Derived.Test.YtdfadpejddhbkaaGreatG9
import Derived.Deep.RegionHeld3
import Derived.Deep.DeepCutAuto
namespace Go.Proofs.YtdfadpejddhbkaaGreat
set_option linter.unusedVariables false
open Go.ChangeShapes Go.WideShapes Go.ChangeAt Go.RowKit

set_option maxRecDepth 100000 in
set_option maxHeartbeats 6400000 in
theorem fnExactJoinBase_walk (a : Option Addr) (ca : Nat) (cs : List Cm) (b : Option Addr) (cb : Nat) (hs : List Hd) (x : Int) (y : Int) (w : World) (hc : CommitsIn w a cs) (hh : HeadsIn w b hs) (hx : (Lit.int .i64 x).wf = true) (hy : (Lit.int .i64 y).wf = true) :
    Calls Tryz.prog 13 #[.agg #[.slice a cs.length ca, .slice b hs.length cb], .int .i64 x, .int .i64 y] w fun e w' => e = .returned (.bool true) ∧ Below w.heap.size w w' := by
  have HC := Lib.hid hc
  have HH := Lib.hid hh
  clear hc hh
  have A0 : Hid (∀ o, Below w.heap.size w (w.alloc o)) := fun o => (Below.refl _ _).alloc (Nat.le_refl _) _
  go_enter Tryz.func13, Tryz.ntmps13
  go_wp2_with fail
  refine (szRepo_any _ _ _ _ _ _ _ _ (HC.out.below (A0.out _)) (HH.out.below (A0.out _)) (by omega) (by omega)).mono ?_
  rintro e w1 ⟨⟨r, rfl, hsz⟩, hb1⟩
  have C1 : Hid (Box2 w1 w.heap.size (.slice a cs.length ca) (.slice b hs.length cb)) := (Box2.new w _ _ _).later hb1
  have B1 : Hid (Below w.heap.size w w1) := (A0.out _).trans (hb1.mono (by simp))
  clear hb1
  rcases hsz with rfl | ⟨r0, r1, l1⟩
  · go_wp2
    go_ret
    exact ⟨rfl, B1.out⟩
  have L1 : Hid (RpLen cs hs 1048576) := ⟨by have := l1.cl; omega, by have := l1.hl; omega, l1.cms.mono (by omega), l1.hds.mono (by omega)⟩
  clear l1
  obtain ⟨z0, c0, c1⟩ := C1.out
  go_wp2_with fail
  clear c0 c1
  refine (toRepo_any _ _ _ _ _ _ _ (HC.out.reads.below B1.out) (HH.out.reads.below B1.out) L1.out).mono ?_
  rintro e w2 ⟨a2, ca2, b2, cb2, rfl, _, _, hR2, hb2⟩
  replace C1 := Lib.hid (C1.out.later hb2)
  have B2 : Hid (Below w.heap.size w w2) := B1.out.trans (hb2.mono B1.out.size)
  have R2 := Lib.hid hR2
  clear hb2 hR2 B1
  go_wp2_with fail
  refine (specJoinBase_any _ _ _ _ cs hs x y _ R2.out L1.out).mono ?_
  rintro e w3 ⟨rfl, hb3⟩
  replace C1 := Lib.hid (C1.out.later hb3)
  have B3 : Hid (Below w.heap.size w w3) := B2.out.trans (hb3.mono B2.out.size)
  clear hb3 B2 R2
  obtain ⟨z0, c0, c1⟩ := C1.out
  go_wp2_with fail
  clear c0 c1
  refine (toRepo_any _ _ _ _ _ _ _ (HC.out.reads.below B3.out) (HH.out.reads.below B3.out) L1.out).mono ?_
  rintro e w4 ⟨aX, caX, bX, cbX, rfl, hcaX, _, hRX, hb4⟩
  replace C1 := Lib.hid (C1.out.later hb4)
  have B4 : Hid (Below w.heap.size w w4) := B3.out.trans (hb4.mono B3.out.size)
  have RX := Lib.hid hRX
  have z0 : w.heap.size < w4.heap.size := C1.out.lt
  clear hb4 hRX B3
  have A4 : Hid (∀ o, Below w4.heap.size w4 (w4.alloc o)) := fun o => (Below.refl _ _).alloc (Nat.le_refl _) _
  go_wp2_with fail
  refine (implJoinBase_any _ _ _ _ cs hs x y _ (RX.out.below (A4.out _)) L1.out hcaX).mono ?_
  rintro e w5 ⟨rfl, hb5⟩
  have hb45 : Below w4.heap.size w4 w5 := (A4.out _).trans (hb5.mono (by simp))
  have D1 : Hid (Box2 w5 w4.heap.size (.slice aX cs.length caX) (.slice bX hs.length cbX)) := (Box2.new w4 _ _ _).later hb5
  replace C1 := Lib.hid (C1.out.later hb45)
  have B5 : Hid (Below w.heap.size w w5) := B4.out.trans (hb45.mono B4.out.size)
  replace RX := Lib.hid (RX.out.below hb45)
  clear hb5 hb45 B4 A4
  have hne : (baseV cs hs x y != baseV cs hs x y) = false := by simp
  go_upto_region 10 with (fail)
  clear hne
  go_cut [34] (fun s wx => s = .bool false ∧ Below w.heap.size w wx)
  case first =>
    obtain ⟨_, c0, c1⟩ := C1.out
    obtain ⟨_, d0, d1⟩ := D1.out
    go_region_held3 (fun w' => w'.cell? ⟨w.heap.size, 0, none⟩ = some (.slice a cs.length ca) ∧ w'.cell? ⟨w.heap.size, 1, none⟩ = some (.slice b hs.length cb) ∧ w'.cell? ⟨w4.heap.size, 0, none⟩ = some (.slice aX cs.length caX) ∧ w'.cell? ⟨w4.heap.size, 1, none⟩ = some (.slice bX hs.length cbX) ∧ Below w5.heap.size w5 w')
      (first
        | (go_split_ands
           rename_i hS0 hS1 hS2 hS3 hS4
           with_reducible exact ⟨cell_later hbn hS0, cell_later hbn hS1, cell_later hbn hS2, cell_later hbn hS3, hS4.trans (hbn.mono hS4.size)⟩)
        | exact ⟨c0, c1, d0, d1, (Below.refl _ _).drew⟩)
      (first
        | (go_at_call 41
           refine (toRepo_any _ _ _ _ _ _ _ ?_ ?_ L1.out).mono ?_
           · (go_split_ands; exact HC.out.reads.below (B5.out.trans (Below.mono (by assumption) B5.out.size)))
           · (go_split_ands; exact HH.out.reads.below (B5.out.trans (Below.mono (by assumption) B5.out.size)))
           rintro e wn ⟨aA, caA, bA, cbA, rfl, _, _, hRA, hbn⟩)
        | (go_at_call 44
           refine (eqRepo_any _ _ _ _ _ _ _ _ cs cs hs hs _ ?_ ?_ L1.out L1.out).mono ?_
           · (go_split_ands; exact RX.out.below (by assumption))
           · (assumption)
           rintro e wn ⟨rfl, hbn⟩))
    all_goals (go_wp2_with fail; go_meet; go_split_ands; exact ⟨by simp [rpEq_refl], B5.out.trans (Below.mono (by assumption) B5.out.size)⟩)
  case rest =>
    clear C1 D1 B5 RX
    obtain ⟨rfl, hB⟩ := hcut
    have B := Lib.hid hB
    clear hB
    go_wp2
    go_ret
    exact ⟨rfl, B.out⟩

set_option maxRecDepth 100000 in
theorem fnExactJoinBase_lifted (os : Os) (started : os.Started) (H : Type) (enc : TypeId × Value → H) :
    ReturnsInHanded {} Tryz.checked os 13 .any (Rows.fnExactJoinBaseSpec.pre6 enc Tryz.prog Tryz.f13 Rows.fnExactJoinBaseRow.domain false) (Rows.fnExactJoinBaseSpec.post enc Tryz.prog Tryz.f13 false true false false) := by
  refine returnsInHanded_of_change (C := Tryz.checked) own started (by kernel_rfl) Tryz.func13
    (ChangeSpec.witness6 (enc := enc) (C := Tryz.checked) false ⟨#[], #[.agg #[.slice none 0 0, .slice none 0 0], .int .i64 0, .int .i64 0], []⟩ 8 (by kernel_rfl) (by kernel_rfl) (by kernel_rfl) (by kernel_rfl)) ?_
  intro W base args ds gs before hval0 hW _ _
  have hval : ∀ (j : Nat) t v, Tryz.f13.params[j]? = some t → args[j]? = some v → Value.okWide Tryz.prog W .any base t v := hval0
  have hW' := hW
  obtain ⟨p, q, hA0, hV, rfl, _, _⟩ := hW
  have hA : DataW.TrodAll enc Tryz.prog W 0 (fun _ => true) true Tryz.f13.params.toList args.toList ds p := hA0
  rw [Tryz.params13] at hA hval
  obtain ⟨v0, vs0, d0, ds0, p0, q0, hargs, rfl, rfl, h0, r0⟩ := trodAll_cons hA
  obtain ⟨v1, vs1, d1, ds1, p1, q1, rfl, rfl, rfl, h1, r1⟩ := trodAll_cons r0
  obtain ⟨v2, vs2, d2, ds2, p2, q2, rfl, rfl, rfl, h2, r2⟩ := trodAll_cons r1
  obtain ⟨rfl, rfl, rfl⟩ := trodAll_nil r2
  obtain rfl : args = #[v0, v1, v2] := by cases args; simp_all
  obtain ⟨rfl, rfl⟩ := trodVars_none hV
  have k0 := h0
  have lt0 : ∀ x ∈ p0, x.block < W.heap.size := by obtain ⟨m, hm⟩ := k0; exact DataW.trod_lt m _ _ _ hm
  obtain ⟨a0, c0, s0, b0, e0, t0, rfl, f0, g0⟩ := open_repo (hval 0 63 v0 rfl rfl) h0
  obtain ⟨x1, rfl, rfl, rfl, w1⟩ := open_int Tryz.underlying3 (hval 1 3 v1 rfl rfl) h1
  obtain ⟨x2, rfl, rfl, rfl, w2⟩ := open_int Tryz.underlying3 (hval 2 3 v2 rfl rfl) h2
  clear hA0 hval0
  refine (fnExactJoinBase_walk a0 c0 s0 b0 e0 t0 x1 x2 W f0 g0 w1 w2).mono fun e W' ⟨he, bel⟩ => ?_
  subst he
  exact ⟨_, rfl, _, _, _, [], _, [], hW', trodAll_mk1 (shut_bool Tryz.underlying4 _), (trodAll_cons_mk (Below.trod laidOut (by kernel_rfl) (of_decide_eq_true (by kernel_rfl)) k0 bel lt0) (trodAll_cons_mk (shut_int Tryz.underlying3 w1) (trodAll_cons_mk (shut_int Tryz.underlying3 w2) trodAll_mk0))), rfl, bel.frame _, fun h => by cases h⟩

theorem fnExactJoinBase_c1 : (Rows.fnExactJoinBaseRow.inPlace == Tryz.prog.inPlace 13) = true := by kernel_rfl
theorem fnExactJoinBase_c2 : (Rows.fnExactJoinBaseRow.unfollowed == Tryz.prog.unfollowed 13) = true := by kernel_rfl
theorem fnExactJoinBase_c3 : (Rows.fnExactJoinBaseRow.recurses == Tryz.prog.recurses 13) = true := by kernel_rfl
theorem fnExactJoinBase_c4 : (Rows.fnExactJoinBaseRow.named == Tryz.prog.varsNamed 13) = true := by kernel_rfl
theorem fnExactJoinBase_c5 : (Rows.fnExactJoinBaseRow.plainKeys == Tryz.prog.plainKeys) = true := pf_plainKeys
theorem fnExactJoinBase_c6 : (Rows.fnExactJoinBaseRow.lifted == Tryz.prog.liftsFinal) = true := pf_lifted
theorem fnExactJoinBase_c7 : (Tryz.prog.make == some Rows.fnExactJoinBaseRow.make) = true := pf_make
theorem fnExactJoinBase_closed : joinedFacts Tryz.prog 13 Tryz.f13 Rows.fnExactJoinBaseSpec Rows.fnExactJoinBaseRow = true := by
  unfold joinedFacts
  simp only [Bool.and_eq_true]
  repeat' apply And.intro
  all_goals first
    | with_reducible exact laidOut
    | with_reducible exact pf_mapsRowed
    | with_reducible exact pf_mayEnter
    | with_reducible exact pf_stopsHeard
    | with_reducible exact fnExactJoinBase_c1
    | with_reducible exact fnExactJoinBase_c2
    | with_reducible exact fnExactJoinBase_c3
    | with_reducible exact fnExactJoinBase_c4
    | with_reducible exact fnExactJoinBase_c5
    | with_reducible exact fnExactJoinBase_c6
    | with_reducible exact fnExactJoinBase_c7
    | kernel_rfl

theorem fnExactJoinBase_over : Rows.fnExactJoinBaseRow.holds Tryz.pinned (OpenSpec.ofChange Rows.fnExactJoinBaseSpec) :=
  OpenClaim.holds_of_wide 13 Tryz.f13 rfl rfl rfl rfl rfl rfl rfl ⟨rfl, rfl, rfl, rfl, rfl⟩ rfl rfl rfl rfl rfl (by kernel_rfl) Tryz.func13 fnExactJoinBase_closed
    (of_decide_eq_true (by kernel_rfl)) (by unfold Func.isWrapper; first | (rw [if_pos (by decide +kernel)]; kernel_rfl) | (rw [if_neg (by decide +kernel)]; exact ⟨rfl, rfl⟩))
    (fun os started H enc _ => fnExactJoinBase_lifted os started H enc)

/-- the given statement -/
theorem fnExactJoinBase_holds : Rows.FnExactJoinBaseSaid := fnExactJoinBase_over

end Go.Proofs.YtdfadpejddhbkaaGreat
