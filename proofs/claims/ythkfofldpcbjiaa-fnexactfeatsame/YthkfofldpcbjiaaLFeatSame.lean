/- Proved here: the law FnExactFeatSame answers true at every two things, and leaves them as they were; no condition. -/
import Derived.Test.YthkfofldpcbjiaaWFeatTo
import Derived.Test.YthkfofldpcbjiaaWFeatEq
import Derived.Test.YthkfofldpcbjiaaWFeatArg
import Derived.Test.YthkfofldpcbjiaaWBox4
import Derived.Deep.RegionHeld3
import Derived.Deep.DeepCutAuto
namespace Go.Proofs.Ythkfofldpcbjiaa
set_option linter.unusedVariables false
open Go.ChangeShapes Go.WideShapes Go.ChangeAt Go.RowKit

set_option maxRecDepth 100000 in
set_option maxHeartbeats 6400000 in
theorem fnFeatSame_walk (id : ByteArray) (k : Int) (a : Option Addr) (cap : Nat) (ps : List (Int × Int)) (c : Option Addr) (ca : Nat) (ts : List Tg) (id' : ByteArray) (k' : Int) (a' : Option Addr) (cap' : Nat) (qs : List (Int × Int)) (c' : Option Addr) (ca' : Nat) (us : List Tg) (w : World) (hf : FeatIn w id a ps c ts) (hg : FeatIn w id' a' qs c' us) :
    Calls Try.prog 5 #[.agg #[.string id, .int .i64 k, .slice a ps.length cap, .slice c ts.length ca], .agg #[.string id', .int .i64 k', .slice a' qs.length cap', .slice c' us.length ca']] w fun e w' => e = .returned (.bool true) ∧ Below w.heap.size w w' := by
  have HF := Lib.hid hf
  have HG := Lib.hid hg
  clear hf hg
  have A0 : Hid (∀ o o', Below w.heap.size w ((w.alloc o).alloc o')) := fun o o' => ((Below.refl _ _).alloc (Nat.le_refl _) _).alloc (by simp) _
  go_enter Try.func5, Try.ntmps5
  go_wp2_with fail
  refine (szFeat_any _ _ _ _ _ _ _ _ _ _ (HF.out.below (A0.out _ _)) (by omega) (by omega)).mono ?_
  rintro e w1 ⟨⟨r, rfl, hs⟩, hb1⟩
  have C1 : Hid (Box4 w1 w.heap.size (.string id) (.int .i64 k) (.slice a ps.length cap) (.slice c ts.length ca)) := ((Box4.new w _ _ _ _ _).alloc _).later hb1
  have C2 : Hid (Box4 w1 (w.heap.size + 1) (.string id') (.int .i64 k') (.slice a' qs.length cap') (.slice c' us.length ca')) := by
    have := (Box4.new (w.alloc (.cells #[.string id, .int .i64 k, .slice a ps.length cap, .slice c ts.length ca] 28)) (.string id') (.int .i64 k') (.slice a' qs.length cap') (.slice c' us.length ca') 28).later hb1
    simpa [Hid] using this
  have B1 : Hid (Below w.heap.size w w1) := (A0.out _ _).trans (hb1.mono (by simp; omega))
  clear hb1
  rcases hs with rfl | ⟨r0, r1, l1, l2, l3, l4⟩
  · go_wp2
    go_ret
    exact ⟨rfl, B1.out⟩
  have L4 := Lib.hid l4
  clear l4
  obtain ⟨c0, c1, c2, c3⟩ := C2.out
  go_wp2_with fail
  clear c0 c1 c2 c3
  refine (szFeat_any _ _ _ _ _ _ _ _ _ _ (HG.out.below B1.out) (by omega) (by omega)).mono ?_
  rintro e w2 ⟨⟨r', rfl, hs⟩, hb2⟩
  replace C1 := Lib.hid (C1.out.later hb2)
  replace C2 := Lib.hid (C2.out.later hb2)
  have B2 : Hid (Below w.heap.size w w2) := B1.out.trans (hb2.mono B1.out.size)
  clear hb2 B1
  rcases hs with rfl | ⟨r0', r1', l1', l2', l3', l4'⟩
  · go_wp2
    go_ret
    exact ⟨rfl, B2.out⟩
  have L4' := Lib.hid l4'
  clear l4'
  have m1 : ps.length ≤ 1048576 := by omega
  have m2 : ts.length ≤ 1048576 := by omega
  have m3 : qs.length ≤ 1048576 := by omega
  have m4 : us.length ≤ 1048576 := by omega
  go_upto_region 8 with (fail)
  go_cut [6] (fun s6 wx => s6 = .bool (featEq id id' k k' ps qs ts us) ∧ Box4 wx w.heap.size (.string id) (.int .i64 k) (.slice a ps.length cap) (.slice c ts.length ca) ∧ Box4 wx (w.heap.size + 1) (.string id') (.int .i64 k') (.slice a' qs.length cap') (.slice c' us.length ca') ∧ Below w.heap.size w wx)
  case first =>
    obtain ⟨c0, c1, c2, c3⟩ := C1.out
    obtain ⟨d0, d1, d2, d3⟩ := C2.out
    go_region_held3 (fun w' => w'.cell? ⟨w.heap.size, 0, none⟩ = some (.string id) ∧ w'.cell? ⟨w.heap.size, 1, none⟩ = some (.int .i64 k) ∧ w'.cell? ⟨w.heap.size, 2, none⟩ = some (.slice a ps.length cap) ∧ w'.cell? ⟨w.heap.size, 3, none⟩ = some (.slice c ts.length ca) ∧ w'.cell? ⟨w.heap.size + 1, 0, none⟩ = some (.string id') ∧ w'.cell? ⟨w.heap.size + 1, 1, none⟩ = some (.int .i64 k') ∧ w'.cell? ⟨w.heap.size + 1, 2, none⟩ = some (.slice a' qs.length cap') ∧ w'.cell? ⟨w.heap.size + 1, 3, none⟩ = some (.slice c' us.length ca') ∧ Below w.heap.size w w')
      (first
        | exact ⟨c0, c1, c2, c3, d0, d1, d2, d3, B2.out.drew⟩
        | (go_split_ands
           rename_i hS0 hS1 hS2 hS3 hS4 hS5 hS6 hS7 hS8
           exact ⟨cell_later hbn hS0, cell_later hbn hS1, cell_later hbn hS2, cell_later hbn hS3, cell_later hbn hS4, cell_later hbn hS5, cell_later hbn hS6, cell_later hbn hS7, hS8.trans (hbn.mono hS8.size)⟩))
      (first
        | (go_at_call_of 13 (Value.agg #[Value.string id, Value.int IntKind.i64 k, Value.slice a ps.length cap, Value.slice c ts.length ca])
           refine (toFeat_any id k a cap ps c ca ts _ ?_ ?_ m1 m2).mono ?_
           · (go_split_ands; exact HF.out.pts.below (by assumption))
           · (go_split_ands; exact HF.out.tags.below (by assumption))
           rintro e wn ⟨bA, cA, rfl, rA, sA, hbA, hcA, hneA, hbn⟩)
        | (go_at_call_of 13 (Value.agg #[Value.string id', Value.int IntKind.i64 k', Value.slice a' qs.length cap', Value.slice c' us.length ca'])
           refine (toFeat_any id' k' a' cap' qs c' ca' us _ ?_ ?_ m3 m4).mono ?_
           · (go_split_ands; exact HG.out.pts.below (by assumption))
           · (go_split_ands; exact HG.out.tags.below (by assumption))
           rintro e wn ⟨bB, cB, rfl, rB, sB, hbB, hcB, hneB, hbn⟩)
        | (go_at_call 16
           refine (specFeatSame_any id id' k k' _ _ _ _ ps qs _ _ _ _ ts us _ ?_ ?_ ?_ ?_ m1 m3 m2 m4).mono ?_
           · (first | exact PtsAt.of_row (by assumption) | exact (PtsAt.of_row (by assumption)).below (by assumption))
           · (first | exact PtsAt.of_row (by assumption) | exact (PtsAt.of_row (by assumption)).below (by assumption))
           · (first | exact TagsAt.of_row (by assumption) | exact (TagsAt.of_row (by assumption)).below (by assumption))
           · (first | exact TagsAt.of_row (by assumption) | exact (TagsAt.of_row (by assumption)).below (by assumption))
           rintro e wn ⟨rfl, hbn⟩))
    all_goals (go_wp2_with fail; go_meet; go_split_ands; rename_i hS0 hS1 hS2 hS3 hS4 hS5 hS6 hS7 hS8; exact ⟨rfl, ⟨hS0, hS1, hS2, hS3⟩, ⟨hS4, hS5, hS6, hS7⟩, hS8⟩)
  case rest =>
    clear C1 C2 B2
    obtain ⟨rfl, hC1, hC2, hB⟩ := hcut
    have C1 := Lib.hid hC1
    have C2 := Lib.hid hC2
    have B := Lib.hid hB
    clear hC1 hC2 hB
    obtain ⟨c0, c1, c2, c3⟩ := C1.out
    go_wp2_with fail
    clear c0 c1 c2 c3
    refine (toFeat_any id k a cap ps c ca ts _ (HF.out.pts.below B.out) (HF.out.tags.below B.out) m1 m2).mono ?_
    rintro e w3 ⟨bX, cX, rfl, rX, sX, hbX, hcX, _, hb3⟩
    replace C1 := Lib.hid (C1.out.later hb3)
    replace C2 := Lib.hid (C2.out.later hb3)
    have B3 : Hid (Below w.heap.size w w3) := B.out.trans (hb3.mono B.out.size)
    have HX := Lib.hid (PtsAt.of_row rX)
    have TX := Lib.hid (TagsAt.of_row sX)
    have z0 : w.heap.size < w3.heap.size := C1.out.lt
    have z1 : w.heap.size + 1 < w3.heap.size := C2.out.lt
    clear hb3 rX sX B hbX hcX
    obtain ⟨c0, c1, c2, c3⟩ := C2.out
    go_wp2_with fail
    clear c0 c1 c2 c3
    refine (toFeat_any id' k' a' cap' qs c' ca' us _ (HG.out.pts.below (B3.out.alloc B3.out.size _)) (HG.out.tags.below (B3.out.alloc B3.out.size _)) m3 m4).mono ?_
    rintro e w4 ⟨bY, cY, rfl, rY, sY, hbY, hcY, _, hb4⟩
    have hb34 : Below w3.heap.size w3 w4 := ((Below.refl _ _).alloc (Nat.le_refl _) _).trans (hb4.mono (by simp))
    have D1 : Hid (Box4 w4 w3.heap.size (.string id) (.int .i64 k) (.slice (some ⟨bX, 0, none⟩) ps.length ps.length) (.slice (some ⟨cX, 0, none⟩) ts.length ts.length)) := (Box4.new w3 _ _ _ _ _).later hb4
    replace C1 := Lib.hid (C1.out.later hb34)
    replace C2 := Lib.hid (C2.out.later hb34)
    have B4 : Hid (Below w.heap.size w w4) := B3.out.trans (hb34.mono B3.out.size)
    replace HX := Lib.hid (HX.out.below hb34)
    replace TX := Lib.hid (TX.out.below hb34)
    have HY := Lib.hid (PtsAt.of_row rY)
    have TY := Lib.hid (TagsAt.of_row sY)
    have z2 : w3.heap.size < w4.heap.size := D1.out.lt
    have z3 : w.heap.size < w4.heap.size := C1.out.lt
    have z4 : w.heap.size + 1 < w4.heap.size := C2.out.lt
    clear hb4 hb34 rY sY hbY hcY B3
    obtain ⟨c0, c1, c2, c3⟩ := D1.out
    go_wp2_with fail
    clear c0 c1 c2 c3
    have A4 : Hid (∀ o, Below w4.heap.size w4 (w4.alloc o)) := fun o => (Below.refl _ _).alloc (Nat.le_refl _) _
    refine (implFeatSame_any id id' k k' _ _ _ _ ps qs _ _ _ _ ts us _ (HX.out.below (A4.out _)) (HY.out.below (A4.out _)) (TX.out.below (A4.out _)) (TY.out.below (A4.out _)) m1 m3 m2 m4).mono ?_
    rintro e w5 ⟨rfl, hb5⟩
    have hb45 : Below w4.heap.size w4 w5 := (A4.out _).trans (hb5.mono (by simp))
    have D2 : Hid (Box4 w5 w4.heap.size (.string id') (.int .i64 k') (.slice (some ⟨bY, 0, none⟩) qs.length qs.length) (.slice (some ⟨cY, 0, none⟩) us.length us.length)) := (Box4.new w4 _ _ _ _ _).later hb5
    replace C1 := Lib.hid (C1.out.later hb45)
    replace C2 := Lib.hid (C2.out.later hb45)
    replace D1 := Lib.hid (D1.out.later hb45)
    have B5 : Hid (Below w.heap.size w w5) := B4.out.trans (hb45.mono B4.out.size)
    replace HX := Lib.hid (HX.out.below hb45)
    replace TX := Lib.hid (TX.out.below hb45)
    replace HY := Lib.hid (HY.out.below hb45)
    replace TY := Lib.hid (TY.out.below hb45)
    clear hb5 hb45 B4 A4
    have hne : (featEq id id' k k' ps qs ts us != featEq id id' k k' ps qs ts us) = false := by simp
    go_upto_region 14 with (fail)
    clear hne
    go_cut [39] (fun s39 wx => s39 = .bool false ∧ Box4 wx (w.heap.size + 1) (.string id') (.int .i64 k') (.slice a' qs.length cap') (.slice c' us.length ca') ∧ Box4 wx w4.heap.size (.string id') (.int .i64 k') (.slice (some ⟨bY, 0, none⟩) qs.length qs.length) (.slice (some ⟨cY, 0, none⟩) us.length us.length) ∧ Below w.heap.size w wx ∧ PtsAt wx (some ⟨bY, 0, none⟩) qs ∧ TagsAt wx (some ⟨cY, 0, none⟩) us)
    case first =>
      obtain ⟨c0, c1, c2, c3⟩ := C1.out
      obtain ⟨d0, d1, d2, d3⟩ := D1.out
      go_region_held3 (fun w' => w'.cell? ⟨w.heap.size, 0, none⟩ = some (.string id) ∧ w'.cell? ⟨w.heap.size, 1, none⟩ = some (.int .i64 k) ∧ w'.cell? ⟨w.heap.size, 2, none⟩ = some (.slice a ps.length cap) ∧ w'.cell? ⟨w.heap.size, 3, none⟩ = some (.slice c ts.length ca) ∧ w'.cell? ⟨w3.heap.size, 0, none⟩ = some (.string id) ∧ w'.cell? ⟨w3.heap.size, 1, none⟩ = some (.int .i64 k) ∧ w'.cell? ⟨w3.heap.size, 2, none⟩ = some (.slice (some ⟨bX, 0, none⟩) ps.length ps.length) ∧ w'.cell? ⟨w3.heap.size, 3, none⟩ = some (.slice (some ⟨cX, 0, none⟩) ts.length ts.length) ∧ Below w5.heap.size w5 w')
        (first
          | exact ⟨c0, c1, c2, c3, d0, d1, d2, d3, (Below.refl _ _).drew⟩
          | (go_split_ands
             rename_i hS0 hS1 hS2 hS3 hS4 hS5 hS6 hS7 hS8
             exact ⟨cell_later hbn hS0, cell_later hbn hS1, cell_later hbn hS2, cell_later hbn hS3, cell_later hbn hS4, cell_later hbn hS5, cell_later hbn hS6, cell_later hbn hS7, hS8.trans (hbn.mono hS8.size)⟩))
        (first
          | (go_at_call 13
             refine (toFeat_any id k a cap ps c ca ts _ ?_ ?_ m1 m2).mono ?_
             · (go_split_ands; exact HF.out.pts.below (B5.out.trans (Below.mono (by assumption) B5.out.size)))
             · (go_split_ands; exact HF.out.tags.below (B5.out.trans (Below.mono (by assumption) B5.out.size)))
             rintro e wn ⟨bA, cA, rfl, rA, sA, hbA, hcA, hneA, hbn⟩)
          | (go_at_call 15
             refine (eqFeat_any id id k k _ _ _ _ ps ps _ _ _ _ ts ts _ ?_ ?_ ?_ ?_ m1 m1 m2 m2).mono ?_
             · (go_split_ands; exact HX.out.below (by assumption))
             · (exact PtsAt.of_row (by assumption))
             · (go_split_ands; exact TX.out.below (by assumption))
             · (exact TagsAt.of_row (by assumption))
             rintro e wn ⟨rfl, hbn⟩))
      all_goals (go_wp2_with fail; go_meet; go_split_ands; exact ⟨by simp [featEq, shEq, ptsEq, tgsEq], C2.out.later ‹Below w5.heap.size w5 _›, D2.out.later ‹Below w5.heap.size w5 _›, B5.out.trans (Below.mono ‹Below w5.heap.size w5 _› B5.out.size), HY.out.below ‹Below w5.heap.size w5 _›, TY.out.below ‹Below w5.heap.size w5 _›⟩)
    case rest =>
      clear C1 C2 D1 D2 B5 HX HY TX TY
      obtain ⟨rfl, hC2, hD2, hB, hY, hT⟩ := hcut
      have C2 := Lib.hid hC2
      have D2 := Lib.hid hD2
      have B := Lib.hid hB
      have HY := Lib.hid hY
      have TY := Lib.hid hT
      clear hC2 hD2 hB hY hT
      go_upto_region 16 with (fail)
      go_cut [44] (fun s44 wx => s44 = .bool false ∧ Below w.heap.size w wx)
      case first =>
        obtain ⟨c0, c1, c2, c3⟩ := C2.out
        obtain ⟨d0, d1, d2, d3⟩ := D2.out
        go_region_held3 (fun w' => w'.cell? ⟨w.heap.size + 1, 0, none⟩ = some (.string id') ∧ w'.cell? ⟨w.heap.size + 1, 1, none⟩ = some (.int .i64 k') ∧ w'.cell? ⟨w.heap.size + 1, 2, none⟩ = some (.slice a' qs.length cap') ∧ w'.cell? ⟨w.heap.size + 1, 3, none⟩ = some (.slice c' us.length ca') ∧ w'.cell? ⟨w4.heap.size, 0, none⟩ = some (.string id') ∧ w'.cell? ⟨w4.heap.size, 1, none⟩ = some (.int .i64 k') ∧ w'.cell? ⟨w4.heap.size, 2, none⟩ = some (.slice (some ⟨bY, 0, none⟩) qs.length qs.length) ∧ w'.cell? ⟨w4.heap.size, 3, none⟩ = some (.slice (some ⟨cY, 0, none⟩) us.length us.length) ∧ Below wc.heap.size wc w')
          (first
            | exact ⟨c0, c1, c2, c3, d0, d1, d2, d3, (Below.refl _ _).drew⟩
            | (go_split_ands
               rename_i hS0 hS1 hS2 hS3 hS4 hS5 hS6 hS7 hS8
               exact ⟨cell_later hbn hS0, cell_later hbn hS1, cell_later hbn hS2, cell_later hbn hS3, cell_later hbn hS4, cell_later hbn hS5, cell_later hbn hS6, cell_later hbn hS7, hS8.trans (hbn.mono hS8.size)⟩))
          (first
            | (go_at_call 13
               refine (toFeat_any id' k' a' cap' qs c' ca' us _ ?_ ?_ m3 m4).mono ?_
               · (go_split_ands; exact HG.out.pts.below (B.out.trans (Below.mono (by assumption) B.out.size)))
               · (go_split_ands; exact HG.out.tags.below (B.out.trans (Below.mono (by assumption) B.out.size)))
               rintro e wn ⟨bA, cA, rfl, rA, sA, hbA, hcA, hneA, hbn⟩)
            | (go_at_call 15
               refine (eqFeat_any id' id' k' k' _ _ _ _ qs qs _ _ _ _ us us _ ?_ ?_ ?_ ?_ m3 m3 m4 m4).mono ?_
               · (go_split_ands; exact HY.out.below (by assumption))
               · (exact PtsAt.of_row (by assumption))
               · (go_split_ands; exact TY.out.below (by assumption))
               · (exact TagsAt.of_row (by assumption))
               rintro e wn ⟨rfl, hbn⟩))
        all_goals (go_wp2_with fail; go_meet; go_split_ands; exact ⟨by simp [featEq, shEq, ptsEq, tgsEq], B.out.trans (Below.mono (by assumption) B.out.size)⟩)
      case rest =>
        clear C2 D2 B HY TY
        obtain ⟨rfl, hB⟩ := hcut
        have B := Lib.hid hB
        clear hB
        go_wp2
        go_ret
        exact ⟨rfl, B.out⟩

set_option maxRecDepth 100000 in
theorem fnExactFeatSame_lifted (os : Os) (started : os.Started) (H : Type) (enc : TypeId × Value → H) :
    ReturnsInHanded {} Try.checked os 5 .any (Rows.fnExactFeatSameSpec.pre6 enc Try.prog Try.f5 Rows.fnExactFeatSameRow.domain false) (Rows.fnExactFeatSameSpec.post enc Try.prog Try.f5 false true false false) := by
  refine returnsInHanded_of_change (C := Try.checked) own started (by kernel_rfl) Try.func5
    (ChangeSpec.witness6 (enc := enc) (C := Try.checked) false ⟨#[], #[.agg #[.string .empty, .int .i64 0, .slice none 0 0, .slice none 0 0], .agg #[.string .empty, .int .i64 0, .slice none 0 0, .slice none 0 0]], []⟩ 8 (by kernel_rfl) (by kernel_rfl) (by kernel_rfl) (by kernel_rfl)) ?_
  intro W base args ds gs before hval0 hW _ _
  have hval : ∀ (j : Nat) t v, Try.f5.params[j]? = some t → args[j]? = some v → Value.okWide Try.prog W .any base t v := hval0
  have hW' := hW
  obtain ⟨p, q, hA0, hV, rfl, _, _⟩ := hW
  have hA : DataW.TrodAll enc Try.prog W 0 (fun _ => true) true Try.f5.params.toList args.toList ds p := hA0
  rw [Try.params5] at hA hval
  obtain ⟨v0, vs0, d0, ds0, p0, q0, hargs, rfl, rfl, h0, r0⟩ := trodAll_cons hA
  obtain ⟨v1, vs1, d1, ds1, p1, q1, rfl, rfl, rfl, h1, r1⟩ := trodAll_cons r0
  obtain ⟨rfl, rfl, rfl⟩ := trodAll_nil r1
  obtain rfl : args = #[v0, v1] := by cases args; simp_all
  obtain ⟨rfl, rfl⟩ := trodVars_none hV
  have k0 := h0
  have lt0 : ∀ x ∈ p0, x.block < W.heap.size := by obtain ⟨m, hm⟩ := k0; exact DataW.trod_lt m _ _ _ hm
  obtain ⟨i0, x0, a0, c0, s0, b0, e0, t0, rfl, f0⟩ := open_feat (hval 0 28 v0 rfl rfl) h0
  have k1 := h1
  have lt1 : ∀ x ∈ p1, x.block < W.heap.size := by obtain ⟨m, hm⟩ := k1; exact DataW.trod_lt m _ _ _ hm
  obtain ⟨i1, x1, a1, c1, s1, b1, e1, t1, rfl, f1⟩ := open_feat (hval 1 28 v1 rfl rfl) h1
  clear hA0 hval0
  refine (fnFeatSame_walk i0 x0 a0 c0 s0 b0 e0 t0 i1 x1 a1 c1 s1 b1 e1 t1 W f0 f1).mono fun e W' ⟨he, bel⟩ => ?_
  subst he
  exact ⟨_, rfl, _, _, _, [], _, [], hW', trodAll_mk1 (shut_bool Try.underlying4 _), (trodAll_cons_mk (Below.trod laidOut (by kernel_rfl) (of_decide_eq_true (by kernel_rfl)) k0 bel lt0) (trodAll_cons_mk (Below.trod laidOut (by kernel_rfl) (of_decide_eq_true (by kernel_rfl)) k1 bel lt1) trodAll_mk0)), rfl, bel.frame _, fun h => by cases h⟩

theorem fnExactFeatSame_over : Rows.fnExactFeatSameRow.holds Try.pinned (OpenSpec.ofChange Rows.fnExactFeatSameSpec) :=
  OpenClaim.holds_of_wide 5 Try.f5 rfl rfl rfl rfl rfl rfl rfl ⟨rfl, rfl, rfl, rfl, rfl⟩ rfl rfl rfl rfl rfl (by kernel_rfl) Try.func5 (by kernel_rfl)
    (of_decide_eq_true (by kernel_rfl)) (by unfold Func.isWrapper; first | (rw [if_pos (by decide +kernel)]; kernel_rfl) | (rw [if_neg (by decide +kernel)]; exact ⟨rfl, rfl⟩))
    (fun os started H enc _ => fnExactFeatSame_lifted os started H enc)

/-- the given statement -/
theorem fnExactFeatSame_holds : Rows.FnExactFeatSameSaid := fnExactFeatSame_over

end Go.Proofs.Ythkfofldpcbjiaa
