/- Proved here: the law FnExactFeatText answers true at every thing, and leaves it as it was, the library's tables being as its text lays them: the card. -/
import Derived.Test.YthkfofldpcbjiaaDoorTie
import Derived.Test.YthkfofldpcbjiaaDoorCards
import Derived.Test.YthkfofldpcbjiaaDoorWFeatTo
import Derived.Test.YthkfofldpcbjiaaDoorWFeatEqL
import Derived.Test.YthkfofldpcbjiaaDoorWFeatArg
import Derived.Test.YthkfofldpcbjiaaDoorWFeatText
import Derived.Test.YthkfofldpcbjiaaDoorWLaid
import Derived.Test.YthkfofldpcbjiaaDoorWBox4
import Derived.LaidMore
import Derived.OpenShut
import Derived.Lay
import Derived.SevenTiedAt
import Derived.Stop.Joined
import Derived.Deep.RegionHeld3
import Derived.Deep.DeepCutAuto
namespace Go.Proofs.YthkfofldpcbjiaaDoor
set_option linter.unusedVariables false
open Go.ChangeShapes Go.WideShapes Go.ChangeAt Go.RowKit

set_option maxRecDepth 100000 in
set_option maxHeartbeats 6400000 in
theorem fnFeatText_walk (id : ByteArray) (k : Int) (a : Option Addr) (cap : Nat) (ps : List (Int × Int)) (c : Option Addr) (ca : Nat) (ts : List Tg) (w : World) (hf : FeatIn w id a ps c ts) (htab : Tab w) :
    Calls Tryd.prog 5 #[.agg #[.string id, .int .i64 k, .slice a ps.length cap, .slice c ts.length ca]] w fun e w' => e = .returned (.bool true) ∧ Below w.heap.size w w' := by
  have HF := Lib.hid hf
  have HA := Lib.hid htab
  clear hf htab
  have A0 : Hid (∀ o, Below w.heap.size w (w.alloc o)) := fun o => (Below.refl _ _).alloc (Nat.le_refl _) _
  go_enter Tryd.func5, Tryd.ntmps5
  go_wp2_with fail
  refine (szFeat_any _ _ _ _ _ _ _ _ _ _ (HF.out.below (A0.out _)) (by omega) (by omega)).mono ?_
  rintro e w1 ⟨⟨r, rfl, hs⟩, hb1⟩
  have C1 : Hid (Box4 w1 w.heap.size (.string id) (.int .i64 k) (.slice a ps.length cap) (.slice c ts.length ca)) := (Box4.new w _ _ _ _ _).later hb1
  have B1 : Hid (Below w.heap.size w w1) := (A0.out _).trans (hb1.mono (by simp))
  clear hb1
  rcases hs with rfl | ⟨r0, r1, l1, l2, l3, l4⟩
  · go_wp2
    go_ret
    exact ⟨rfl, B1.out⟩
  have L4 := Lib.hid l4
  clear l4
  have m0 : id.size ≤ 1048576 := by omega
  have m1 : ps.length ≤ 1048576 := by omega
  have m2 : ts.length ≤ 1048576 := by omega
  obtain ⟨c0, c1, c2, c3⟩ := C1.out
  go_wp2_with fail
  clear c0 c1 c2 c3
  refine (toFeat_any id k a cap ps c ca ts _ (HF.out.pts.below B1.out) (HF.out.tags.below B1.out) m1 m2).mono ?_
  rintro e w2 ⟨b2, c2, rfl, r2, s2, _, _, _, hb2⟩
  replace C1 := Lib.hid (C1.out.later hb2)
  have B2 : Hid (Below w.heap.size w w2) := B1.out.trans (hb2.mono B1.out.size)
  have P2 := Lib.hid (PtsAt.of_row r2)
  have T2 := Lib.hid (TagsAt.of_row s2)
  clear hb2 r2 s2 B1
  go_wp2_with fail
  refine (specFeatText_any id k _ _ ps _ _ ts _ P2.out T2.out m0 m1 m2 L4.out).mono ?_
  rintro e w3 ⟨rfl, hb3⟩
  replace C1 := Lib.hid (C1.out.later hb3)
  have B3 : Hid (Below w.heap.size w w3) := B2.out.trans (hb3.mono B2.out.size)
  clear hb3 B2 P2 T2
  obtain ⟨c0, c1, c2, c3⟩ := C1.out
  go_wp2_with fail
  clear c0 c1 c2 c3
  refine (toFeat_any id k a cap ps c ca ts _ (HF.out.pts.below B3.out) (HF.out.tags.below B3.out) m1 m2).mono ?_
  rintro e w4 ⟨bX, cX, rfl, rX, sX, _, _, _, hb4⟩
  replace C1 := Lib.hid (C1.out.later hb4)
  have B4 : Hid (Below w.heap.size w w4) := B3.out.trans (hb4.mono B3.out.size)
  have HX := Lib.hid (PtsAt.of_row rX)
  have TX := Lib.hid (TagsAt.of_row sX)
  have z0 : w.heap.size < w4.heap.size := C1.out.lt
  clear hb4 rX sX B3
  have A4 : Hid (∀ o, Below w4.heap.size w4 (w4.alloc o)) := fun o => (Below.refl _ _).alloc (Nat.le_refl _) _
  go_wp2_with fail
  refine (implFeatText_any id k _ _ ps _ _ ts _ (HX.out.below (A4.out _)) (TX.out.below (A4.out _)) ((HA.out.below B4.out).below (A4.out _)) m0 m1 m2 L4.out).mono ?_
  rintro e w5 ⟨rfl, hb5⟩
  have hb45 : Below w4.heap.size w4 w5 := (A4.out _).trans (hb5.mono (by simp))
  have D1 : Hid (Box4 w5 w4.heap.size (.string id) (.int .i64 k) (.slice (some ⟨bX, 0, none⟩) ps.length ps.length) (.slice (some ⟨cX, 0, none⟩) ts.length ts.length)) := (Box4.new w4 _ _ _ _ _).later hb5
  replace C1 := Lib.hid (C1.out.later hb45)
  have B5 : Hid (Below w.heap.size w w5) := B4.out.trans (hb45.mono B4.out.size)
  replace HX := Lib.hid (HX.out.below hb45)
  replace TX := Lib.hid (TX.out.below hb45)
  clear hb5 hb45 B4 A4
  go_upto_region 10 with (fail)
  go_cut [26] (fun s26 wx => s26 = .bool false ∧ Below w.heap.size w wx)
  case first =>
    obtain ⟨c0, c1, c2, c3⟩ := C1.out
    obtain ⟨d0, d1, d2, d3⟩ := D1.out
    go_region_held3 (fun w' => w'.cell? ⟨w.heap.size, 0, none⟩ = some (.string id) ∧ w'.cell? ⟨w.heap.size, 1, none⟩ = some (.int .i64 k) ∧ w'.cell? ⟨w.heap.size, 2, none⟩ = some (.slice a ps.length cap) ∧ w'.cell? ⟨w.heap.size, 3, none⟩ = some (.slice c ts.length ca) ∧ w'.cell? ⟨w4.heap.size, 0, none⟩ = some (.string id) ∧ w'.cell? ⟨w4.heap.size, 1, none⟩ = some (.int .i64 k) ∧ w'.cell? ⟨w4.heap.size, 2, none⟩ = some (.slice (some ⟨bX, 0, none⟩) ps.length ps.length) ∧ w'.cell? ⟨w4.heap.size, 3, none⟩ = some (.slice (some ⟨cX, 0, none⟩) ts.length ts.length) ∧ Below w5.heap.size w5 w')
      (first
        | exact ⟨c0, c1, c2, c3, d0, d1, d2, d3, (Below.refl _ _).drew⟩
        | (go_split_ands
           rename_i hS0 hS1 hS2 hS3 hS4 hS5 hS6 hS7 hS8
           exact ⟨cell_later hbn hS0, cell_later hbn hS1, cell_later hbn hS2, cell_later hbn hS3, cell_later hbn hS4, cell_later hbn hS5, cell_later hbn hS6, cell_later hbn hS7, hS8.trans (hbn.mono hS8.size)⟩))
      (first
        | (go_at_call 17
           refine (toFeat_any id k a cap ps c ca ts _ ?_ ?_ m1 m2).mono ?_
           · (go_split_ands; exact HF.out.pts.below (B5.out.trans (Below.mono (by assumption) B5.out.size)))
           · (go_split_ands; exact HF.out.tags.below (B5.out.trans (Below.mono (by assumption) B5.out.size)))
           rintro e wn ⟨bA, cA, rfl, rA, sA, hbA, hcA, hneA, hbn⟩)
        | (go_at_call 19
           refine (eqFeat_any id id k k _ _ _ _ ps ps _ _ _ _ ts ts _ ?_ ?_ ?_ ?_ m1 m1 m2 m2).mono ?_
           · (go_split_ands; exact HX.out.below (by assumption))
           · (exact PtsAt.of_row (by assumption))
           · (go_split_ands; exact TX.out.below (by assumption))
           · (exact TagsAt.of_row (by assumption))
           rintro e wn ⟨rfl, hbn⟩))
    all_goals (go_wp2_with fail; go_meet; go_split_ands; exact ⟨by simp [featEq, shEq, ptsEq, tgsEq], B5.out.trans (Below.mono (by assumption) B5.out.size)⟩)
  case rest =>
    clear C1 D1 B5 HX TX
    obtain ⟨rfl, hB⟩ := hcut
    have B := Lib.hid hB
    clear hB
    go_wp2
    go_ret
    exact ⟨rfl, B.out⟩

set_option maxRecDepth 100000 in
theorem fnExactFeatText_lifted (os : Os) (started : os.Started) (H : Type) (enc : TypeId × Value → H) :
    ReturnsInHanded {} Tryd.checked os 5 .any (fun w args => (Rows.fnExactFeatTextSpec.pre enc Tryd.prog Tryd.f5 Rows.fnExactFeatTextRow.domain false w args ∧ laidMetH Tryd.prog Rows.fnExactFeatTextRow.laid w) ∧ sizedMet enc Tryd.prog Tryd.f5 (OpenSpec.ofChange Rows.fnExactFeatTextSpec) false w args)
      (Rows.fnExactFeatTextSpec.post enc Tryd.prog Tryd.f5 false true false false) := by
  refine returnsInHanded_of_change_and (C := Tryd.checked) (X := fun w _ => laidMetH Tryd.prog Rows.fnExactFeatTextRow.laid w) (fun _ _ _ hh h => h.of_heap hh) own started (by kernel_rfl) Tryd.func5
    (ChangeSpec.witness_shaped (enc := enc) (C := Tryd.checked) (os := os) (X := fun w _ => laidMetH Tryd.prog Rows.fnExactFeatTextRow.laid w) false (World.laidAll Tryd.prog os Rows.fnExactFeatTextRow.laid) #[.agg #[.string .empty, .int .i64 0, .slice none 0 0, .slice none 0 0]] 8 (World.laidAll_os _ _ _)
      (World.shaped_of_ZipB (by kernel_rfl) (by kernel_rfl)) (by kernel_rfl) (by kernel_rfl) (by kernel_rfl)
      (by rw [MakeChecks.laidMetH_plain _ _ _ (by kernel_rfl)]; exact laidMet_laidAll _ (by kernel_rfl) (by kernel_rfl))) ?_
  intro W base args ds gs before hval0 hW _ _ hL _
  have hval : ∀ (j : Nat) t v, Tryd.f5.params[j]? = some t → args[j]? = some v → Value.okWide Tryd.prog W .any base t v := hval0
  have hW' := hW
  obtain ⟨p, q, hA0, hV, rfl, _, _⟩ := hW
  have hA : DataW.TrodAll enc Tryd.prog W 0 (fun _ => true) true Tryd.f5.params.toList args.toList ds p := hA0
  rw [Tryd.params5] at hA hval
  obtain ⟨v0, vs0, d0, ds0, p0, q0, hargs, rfl, rfl, h0, r0⟩ := trodAll_cons hA
  obtain ⟨rfl, rfl, rfl⟩ := trodAll_nil r0
  obtain rfl : args = #[v0] := by cases args; simp_all
  obtain ⟨rfl, rfl⟩ := trodVars_none hV
  have k0 := h0
  have lt0 : ∀ x ∈ p0, x.block < W.heap.size := by obtain ⟨m, hm⟩ := k0; exact DataW.trod_lt m _ _ _ hm
  obtain ⟨i0, x0, a0, c0, s0, b0, e0, t0, rfl, f0⟩ := open_feat (hval 0 39 v0 rfl rfl) h0
  clear hA0 hval0
  refine (fnFeatText_walk i0 x0 a0 c0 s0 b0 e0 t0 W f0 (tab_of_laid hL)).mono fun e W' ⟨he, bel⟩ => ?_
  subst he
  exact ⟨_, rfl, _, _, _, [], _, [], hW', trodAll_mk1 (shut_bool Tryd.underlying4 _), (trodAll_cons_mk (Below.trod laidOut (by kernel_rfl) (of_decide_eq_true (by kernel_rfl)) k0 bel lt0) trodAll_mk0), rfl, bel.frame _, fun h => by cases h⟩

theorem fnExactFeatText_row : Rows.FnExactFeatTextSaid :=
  OpenClaim.holds_of_wide 5 Tryd.f5 rfl rfl rfl rfl rfl rfl rfl ⟨rfl, rfl, rfl, rfl, rfl⟩ rfl rfl rfl rfl rfl (by kernel_rfl) Tryd.func5 (by kernel_rfl)
    (of_decide_eq_true (by kernel_rfl)) (by unfold Func.isWrapper; first | (rw [if_pos (by decide +kernel)]; kernel_rfl) | (rw [if_neg (by decide +kernel)]; exact ⟨rfl, rfl⟩))
    (fun os started H enc _ => fnExactFeatText_lifted os started H enc)

/-- the given statement -/
theorem fnExactFeatText_holds : Rows.FnExactFeatTextCardSaid :=
  Claim7.holds_tied_plain_at .later [] [.data, .data, .data] true Rows.fnExactFeatTextCard.stood.harness true fnExactFeatText_row (fun _ h => by cases h) (by kernel_rfl) (fun _ h => by cases h) fnExactFeatText_row_tie rfl ⟨rfl, rfl⟩ (by kernel_rfl) rfl
    (fun f fn hf hfn => by
      obtain rfl : f = 5 := Option.some.inj ((show Tryd.prog.funcNamed "loop.example/townland/laws.FnExactFeatText" = some 5 by kernel_rfl).symm.trans hf) |>.symm
      obtain rfl : fn = Tryd.f5 := (Option.some.inj (Tryd.func5.symm.trans hfn)).symm
      exact ⟨by kernel_rfl, fun j t ht => by
        have hall : (Tryd.f5.params.toList.all fun u => !Tryd.prog.wantsStandIn u) = true := by kernel_rfl
        have hm : t ∈ Tryd.f5.params.toList := by simpa using Array.mem_of_getElem? ht
        exact (show Tryd.prog.wantsStandIn t = false by simpa using List.all_eq_true.1 hall t hm)⟩)
    (by kernel_rfl)

end Go.Proofs.YthkfofldpcbjiaaDoor
