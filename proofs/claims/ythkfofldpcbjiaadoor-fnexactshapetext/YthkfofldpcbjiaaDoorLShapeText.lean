/- Proved here: the law FnExactShapeText answers true at every argument, and leaves it as it was, the library's tables being as its text lays them: the card. -/
import Derived.Test.YthkfofldpcbjiaaDoorTie
import Derived.Test.YthkfofldpcbjiaaDoorCards
import Derived.Test.YthkfofldpcbjiaaDoorWShapeL
import Derived.Test.YthkfofldpcbjiaaDoorWArg
import Derived.Test.YthkfofldpcbjiaaDoorWTextI
import Derived.Test.YthkfofldpcbjiaaDoorWLaid
import Derived.Lib.LaidTab
import Derived.ProofKit
import Derived.LaidMore
import Derived.OpenShut
import Derived.Lay
import Derived.SevenTiedAt
import Derived.Stop.Joined
import Derived.Deep.RegionHeld3
import Derived.Deep.DeepCutAuto
namespace Go.Proofs.YthkfofldpcbjiaaDoor
set_option linter.unusedVariables false
open Go.ChangeShapes Go.WideShapes Go.ChangeAt Go.RowKit

set_option maxRecDepth 100000 in
set_option maxHeartbeats 3200000 in
theorem fnExactShapeText_walk (k : Int) (a : Option Addr) (cap : Nat) (ps : List (Int × Int)) (w : World) (hp : PtsAt w a ps) (ht : Tab w) (hl : ps.length ≤ 1048576) :
    Calls Tryd.prog 3 #[.agg #[.int .i64 k, .slice a ps.length cap]] w fun e w' => e = .returned (.bool true) ∧ Below w.heap.size w w' := by
  have HP := Lib.hid hp
  have HA := Lib.hid ht
  clear hp ht
  go_enter Tryd.func3, Tryd.ntmps3
  go_wp2_with fail
  refine (szShape_fits _ _ _ _ _ _ (by omega) (by omega)).mono ?_
  rintro e w1 ⟨rfl, hb1⟩
  have c0 := cell_later hb1 (a := ⟨w.heap.size, 0, none⟩) (v := .int .i64 k) (by simp [go_sem])
  have c1 := cell_later hb1 (a := ⟨w.heap.size, 1, none⟩) (v := .slice a ps.length cap) (by simp [go_sem])
  have B1 : Hid (Below w.heap.size w w1) := ((Below.refl _ _).alloc (Nat.le_refl _) _).trans (hb1.mono (by simp))
  clear hb1
  go_wp2_with fail
  refine (toShape_any k a cap ps _ (HP.out.below B1.out) hl).mono ?_
  rintro e w2 ⟨b2, rfl, r2, _, hb2⟩
  replace c0 := cell_later hb2 c0
  replace c1 := cell_later hb2 c1
  have B2 : Hid (Below w.heap.size w w2) := B1.out.trans (hb2.mono B1.out.size)
  have H2 := Lib.hid (PtsAt.of_row r2)
  clear hb2 r2 B1
  go_wp2_with fail
  refine (specShapeText_any k _ _ ps _ H2.out hl).mono ?_
  rintro e w3 ⟨rfl, hb3⟩
  replace c0 := cell_later hb3 c0
  replace c1 := cell_later hb3 c1
  have B3 : Hid (Below w.heap.size w w3) := B2.out.trans (hb3.mono B2.out.size)
  clear hb3 B2 H2
  go_wp2_with fail
  refine (toShape_any k a cap ps _ (HP.out.below B3.out) hl).mono ?_
  rintro e w4 ⟨bX, rfl, rX, _, hb4⟩
  replace c0 := cell_later hb4 c0
  replace c1 := cell_later hb4 c1
  have B4 : Hid (Below w.heap.size w w4) := B3.out.trans (hb4.mono B3.out.size)
  have HX := Lib.hid (PtsAt.of_row rX)
  have z0 : w.heap.size < w4.heap.size := World.block_lt_of_cell? _ _ c0
  clear hb4 rX B3
  go_wp2_with fail
  refine (implShapeText_any k _ _ ps _ (HX.out.below ((Below.refl _ _).alloc (Nat.le_refl _) _)) ((HA.out.below B4.out).below ((Below.refl _ _).alloc (Nat.le_refl _) _))).mono ?_
  rintro e w5 ⟨rfl, hb5⟩
  have hb45 : Below w4.heap.size w4 w5 := ((Below.refl _ _).alloc (Nat.le_refl _) _).trans (hb5.mono (by simp))
  have d0 := cell_later hb5 (a := ⟨w4.heap.size, 0, none⟩) (v := .int .i64 k) (by simp [go_sem])
  have d1 := cell_later hb5 (a := ⟨w4.heap.size, 1, none⟩) (v := .slice (some ⟨bX, 0, none⟩) ps.length ps.length) (by simp [go_sem])
  replace c0 := cell_later hb45 c0
  replace c1 := cell_later hb45 c1
  have B5 : Hid (Below w.heap.size w w5) := B4.out.trans (hb45.mono B4.out.size)
  have HX5 := Lib.hid (HX.out.below hb45)
  clear hb5 hb45 B4 HX
  go_upto_region 10 with (fail)
  go_cut [26] (fun s26 wx => s26 = .bool false ∧ Below w.heap.size w wx)
  case first =>
    go_region_held3 (fun w' => w'.cell? ⟨w.heap.size, 0, none⟩ = some (.int .i64 k) ∧ w'.cell? ⟨w.heap.size, 1, none⟩ = some (.slice a ps.length cap) ∧ w'.cell? ⟨w4.heap.size, 0, none⟩ = some (.int .i64 k) ∧ w'.cell? ⟨w4.heap.size, 1, none⟩ = some (.slice (some ⟨bX, 0, none⟩) ps.length ps.length) ∧ Below w5.heap.size w5 w')
      (first
        | exact ⟨c0, c1, d0, d1, (Below.refl _ _).drew⟩
        | (go_split_ands
           rename_i hS0 hS1 hS2 hS3 hS4
           exact ⟨cell_later hbn hS0, cell_later hbn hS1, cell_later hbn hS2, cell_later hbn hS3, hS4.trans (hbn.mono hS4.size)⟩))
      (first
        | (go_at_call 8
           refine (toShape_any k a cap ps _ ?_ hl).mono ?_
           · (go_split_ands; exact HP.out.below (B5.out.trans (Below.mono (by assumption) B5.out.size)))
           rintro e wn ⟨bA, rfl, rA, hbA, hbn⟩)
        | (go_at_call 10
           refine (eqShape_any _ _ _ _ _ _ _ _ _ ?_ ?_ hl hl).mono ?_
           · (go_split_ands; exact HX5.out.below (by assumption))
           · (exact PtsAt.of_row (by assumption))
           rintro e wn ⟨rfl, hbn⟩))
    all_goals (go_wp2_with fail; go_meet; go_split_ands; exact ⟨by simp [ptsEq], B5.out.trans (Below.mono (by assumption) B5.out.size)⟩)
  case rest =>
    obtain ⟨rfl, hB⟩ := hcut
    have B := Lib.hid hB
    clear hB
    go_wp2
    go_ret
    exact ⟨rfl, B.out⟩

set_option maxHeartbeats 400000 in
theorem fnExactShapeText_large (k : Int) (a : Option Addr) (n cap : Nat) (w : World) (hn : 1048576 < n) (hm : n ≤ maxLen) :
    Calls Tryd.prog 3 #[.agg #[.int .i64 k, .slice a n cap]] w fun e w' => e = .returned (.bool true) ∧ Below w.heap.size w w' := by
  go_enter Tryd.func3, Tryd.ntmps3
  go_wp2_with fail
  refine (szShape_over _ _ _ _ _ _ (by omega) (by omega) (by omega) hm).mono ?_
  rintro e w1 ⟨rfl, hb1⟩
  have B1 : Hid (Below w.heap.size w w1) := ((Below.refl _ _).alloc (Nat.le_refl _) _).trans (hb1.mono (by simp))
  clear hb1
  go_wp2
  go_ret
  exact ⟨rfl, B1.out⟩

theorem fnExactShapeText_all (k : Int) (a : Option Addr) (cap : Nat) (ps : List (Int × Int)) (w : World) (hp : PtsAt w a ps) (ht : Tab w) (hm : ps.length ≤ maxLen) :
    Calls Tryd.prog 3 #[.agg #[.int .i64 k, .slice a ps.length cap]] w fun e w' => e = .returned (.bool true) ∧ Below w.heap.size w w' := by
  by_cases h1 : ps.length ≤ 1048576
  · exact fnExactShapeText_walk k a cap ps w hp ht h1
  · exact fnExactShapeText_large k a _ cap w (by omega) hm

set_option maxRecDepth 100000 in
theorem fnExactShapeText_lifted (os : Os) (started : os.Started) (H : Type) (enc : TypeId × Value → H) :
    ReturnsInHanded {} Tryd.checked os 3 .any (fun w args => (Rows.fnExactShapeTextSpec.pre enc Tryd.prog Tryd.f3 Rows.fnExactShapeTextRow.domain false w args ∧ laidMetH Tryd.prog Rows.fnExactShapeTextRow.laid w) ∧ sizedMet enc Tryd.prog Tryd.f3 (OpenSpec.ofChange Rows.fnExactShapeTextSpec) false w args)
      (Rows.fnExactShapeTextSpec.post enc Tryd.prog Tryd.f3 false true false false) := by
  refine returnsInHanded_of_change_and (C := Tryd.checked) (X := fun w _ => laidMetH Tryd.prog Rows.fnExactShapeTextRow.laid w) (fun _ _ _ hh h => h.of_heap hh) own started (by kernel_rfl) Tryd.func3
    (ChangeSpec.witness_shaped (enc := enc) (C := Tryd.checked) (os := os) (X := fun w _ => laidMetH Tryd.prog Rows.fnExactShapeTextRow.laid w) false (World.laidAll Tryd.prog os Rows.fnExactShapeTextRow.laid) #[.agg #[.int .i64 0, .slice none 0 0]] 8 (World.laidAll_os _ _ _)
      (World.shaped_of_ZipB (by kernel_rfl) (by kernel_rfl)) (by kernel_rfl) (by kernel_rfl) (by kernel_rfl)
      (by rw [MakeChecks.laidMetH_plain _ _ _ (by kernel_rfl)]; exact laidMet_laidAll _ (by kernel_rfl) (by kernel_rfl))) ?_
  intro W base args ds gs before hval0 hW _ _ hL _
  have hval : ∀ (j : Nat) t v, Tryd.f3.params[j]? = some t → args[j]? = some v → Value.okWide Tryd.prog W .any base t v := hval0
  have hW' := hW
  obtain ⟨p, q, hA0, hV, rfl, _, _⟩ := hW
  have hA : DataW.TrodAll enc Tryd.prog W 0 (fun _ => true) true Tryd.f3.params.toList args.toList ds p := hA0
  rw [Tryd.params3] at hA hval
  obtain ⟨v0, vs0, d0, ds0, p0, q0, hargs, rfl, rfl, h0, r0⟩ := trodAll_cons hA
  obtain ⟨rfl, rfl, rfl⟩ := trodAll_nil r0
  obtain rfl : args = #[v0] := by cases args; simp_all
  obtain ⟨rfl, rfl⟩ := trodVars_none hV
  have k0 := h0
  have lt0 : ∀ x ∈ p0, x.block < W.heap.size := by obtain ⟨m, hm⟩ := k0; exact DataW.trod_lt m _ _ _ hm
  obtain ⟨x0, a0, c0, s0, rfl, f0, g0⟩ := open_shape (hval 0 24 v0 rfl rfl) h0
  clear hA0 hval0
  refine (fnExactShapeText_all x0 a0 c0 s0 W f0 (tab_of_laid hL) g0).mono fun e W' ⟨he, bel⟩ => ?_
  subst he
  exact ⟨_, rfl, _, _, _, [], _, [], hW', trodAll_mk1 (shut_bool Tryd.underlying4 _), (trodAll_cons_mk (Below.trod laidOut (by kernel_rfl) (of_decide_eq_true (by kernel_rfl)) k0 bel lt0) trodAll_mk0), rfl, bel.frame _, fun h => by cases h⟩

theorem fnExactShapeText_row : Rows.FnExactShapeTextSaid :=
  OpenClaim.holds_of_wide 3 Tryd.f3 rfl rfl rfl rfl rfl rfl rfl ⟨rfl, rfl, rfl, rfl, rfl⟩ rfl rfl rfl rfl rfl (by kernel_rfl) Tryd.func3 (by kernel_rfl)
    (of_decide_eq_true (by kernel_rfl)) (by unfold Func.isWrapper; first | (rw [if_pos (by decide +kernel)]; kernel_rfl) | (rw [if_neg (by decide +kernel)]; exact ⟨rfl, rfl⟩))
    (fun os started H enc _ => fnExactShapeText_lifted os started H enc)

/-- the given statement -/
theorem fnExactShapeText_holds : Rows.FnExactShapeTextCardSaid :=
  Claim7.holds_tied_plain_at .later [] [.data, .data, .data] true Rows.fnExactShapeTextCard.stood.harness true fnExactShapeText_row (fun _ h => by cases h) (by kernel_rfl) (fun _ h => by cases h) fnExactShapeText_row_tie rfl ⟨rfl, rfl⟩ (by kernel_rfl) rfl
    (fun f fn hf hfn => by
      obtain rfl : f = 3 := Option.some.inj ((show Tryd.prog.funcNamed "loop.example/townland/laws.FnExactShapeText" = some 3 by kernel_rfl).symm.trans hf) |>.symm
      obtain rfl : fn = Tryd.f3 := (Option.some.inj (Tryd.func3.symm.trans hfn)).symm
      exact ⟨by kernel_rfl, fun j t ht => by
        have hall : (Tryd.f3.params.toList.all fun u => !Tryd.prog.wantsStandIn u) = true := by kernel_rfl
        have hm : t ∈ Tryd.f3.params.toList := by simpa using Array.mem_of_getElem? ht
        exact (show Tryd.prog.wantsStandIn t = false by simpa using List.all_eq_true.1 hall t hm)⟩)
    (by kernel_rfl)

end Go.Proofs.YthkfofldpcbjiaaDoor
